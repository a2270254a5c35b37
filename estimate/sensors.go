package estimate

import (
	"coulomb/api"
	"coulomb/cell"
)

// CheckSensor reports whether a sensor is valid. (P3.1)
func CheckSensor(s api.Sensor) api.Errno {
	if !isFrom(s.Noise, 0, api.MaxRead) || !isFrom(s.Step, 1, api.MaxRead) || !isFrom(s.Least, -api.MaxRead, api.MaxRead) || !isFrom(s.Most, s.Least, api.MaxRead) {
		return api.ErrArg
	}
	return api.OK
}

// Show returns what a sensor shows. (P3.1)
func Show(s api.Sensor, x, noise int64) (int64, api.Errno) {
	if CheckSensor(s) != api.OK || !isFrom(x, -api.MaxQuantity, api.MaxQuantity) {
		return 0, api.ErrArg
	}
	if !isFrom(noise, -s.Noise, s.Noise) {
		return 0, api.ErrRange
	}
	return bring(wholeSteps(s, x+noise+s.Step/2), s.Least, s.Most), api.OK
}

// Behind returns what is behind a reading. (P3.1)
func Behind(s api.Sensor, reading int64) (api.Span, api.Errno) {
	if e := CheckSensor(s); e != api.OK {
		return api.Span{}, e
	}
	if !isPossible(s, reading) {
		return api.Span{}, api.ErrNone
	}
	around := anything()
	if reading > s.Least { // otherwise all lesser numbers are shown as the reading, too
		around.Lo = -wholeSteps(s, -reading) - s.Step/2 - s.Noise
	}
	if reading < s.Most { // otherwise all greater numbers are shown as the reading, too
		around.Hi = wholeSteps(s, reading) + s.Step - 1 - s.Step/2 + s.Noise
	}
	return around, api.OK
}

// Sense returns what the sensors of a cell show. (P3.3)
func Sense(l [4]api.Sensor, c api.Cell, s api.State, in api.Input, noise [4]int64) (api.Reading, api.Errno) {
	if !areSensors(l) {
		return api.Reading{}, api.ErrArg
	}
	volt, e := cell.Voltage(c, s, in.Current) // it has the errors of the cell, of the state, and of the current
	if e != api.OK {
		return api.Reading{}, e
	}
	if !isFrom(in.Ambient, ambientRange().Lo, ambientRange().Hi) {
		return api.Reading{}, api.ErrRange
	}
	truth := [4]int64{api.Volt: volt, api.Current: in.Current, api.Temp: s.Temp, api.Ambient: in.Ambient}
	var r api.Reading
	for i := range len(l) {
		shown, e := Show(l[i], truth[i], noise[i])
		if e != api.OK {
			return api.Reading{}, e
		}
		r.Has[i], r.Value[i] = true, shown
	}
	return r, api.OK
}

// areSensors reports whether all sensors of a cell are valid.
func areSensors(l [4]api.Sensor) bool {
	for i := range len(l) {
		if CheckSensor(l[i]) != api.OK {
			return false
		}
	}
	return true
}

// isPossible reports whether a reading is possible for a valid sensor. The ends of its range are, even if they are no whole steps.
func isPossible(s api.Sensor, reading int64) bool {
	return reading == s.Least || reading == s.Most || isFrom(reading, s.Least, s.Most) && reading%s.Step == 0
}

// wholeSteps returns x, rounded down to whole steps of a sensor.
func wholeSteps(s api.Sensor, x int64) int64 { return s.Step * down(x, s.Step) }

// anything is what is behind a sensor that shows nothing.
func anything() api.Span { return api.Span{Lo: -api.MaxQuantity, Hi: api.MaxQuantity} }
