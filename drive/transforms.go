package drive

import "coulomb/api"

const (
	oneBySqrt3 = 37837  // 1 / sqrt 3, as a binary fraction
	sqrt3      = 113512 // sqrt 3, as a binary fraction
)

// Sin returns the sine of an angle. (P6.1)
func Sin(angle int64) (int64, api.Errno) {
	if !isAngle(angle) {
		return 0, api.ErrRange
	}
	return sine(angle), api.OK
}

// Cos returns the cosine of an angle. (P6.1)
func Cos(angle int64) (int64, api.Errno) {
	if !isAngle(angle) {
		return 0, api.ErrRange
	}
	return cosine(angle), api.OK
}

// Two returns the two currents of three. (P6.2)
func Two(a, b, c int64) (int64, int64, api.Errno) {
	if !areUpTo(api.MaxBus, a, b, c) {
		return 0, 0, api.ErrRange
	}
	if a+b+c != 0 {
		return 0, 0, api.ErrEqual
	}
	return a, down((a+2*b)*oneBySqrt3, fraction), api.OK
}

// TurnTo turns two currents by an angle. (P6.2)
func TurnTo(alpha, beta, angle int64) (int64, int64, api.Errno) {
	if !areUpTo(api.MaxBus, alpha, beta) || !isAngle(angle) {
		return 0, 0, api.ErrRange
	}
	sin, cos := sine(angle), cosine(angle)
	return down(alpha*cos+beta*sin, api.Half), down(beta*cos-alpha*sin, api.Half), api.OK
}

// TurnBack turns two numbers back by an angle. (P6.2)
func TurnBack(d, q, angle int64) (int64, int64, api.Errno) {
	if !areUpTo(api.MaxBus, d, q) || !isAngle(angle) {
		return 0, 0, api.ErrRange
	}
	sin, cos := sine(angle), cosine(angle)
	return down(d*cos-q*sin, api.Half), down(d*sin+q*cos, api.Half), api.OK
}

// Phases returns the three phases of two numbers. (P6.2)
func Phases(alpha, beta int64) ([3]int64, api.Errno) {
	if !areUpTo(api.MaxBus, alpha, beta) {
		return [3]int64{}, api.ErrRange
	}
	w := down(beta*sqrt3, fraction)
	return [3]int64{alpha, down(w-alpha, 2), down(-w-alpha, 2)}, api.OK
}

// Duties returns the duties of three phases, and whether they were cut. (P6.3)
func Duties(phases [3]int64, bus int64) ([3]int64, bool, api.Errno) {
	if !areUpTo(api.MaxBus, phases[:]...) {
		return [3]int64{}, false, api.ErrRange
	}
	if e := busError(bus); e != api.OK {
		return [3]int64{}, false, e
	}
	least, greatest := ends(phases)
	isCut := greatest-least > bus
	if isCut {
		for i, phase := range phases {
			phases[i] = down(phase*bus, greatest-least)
		}
		least, greatest = ends(phases)
	}
	var duties [3]int64
	for i, phase := range phases {
		duties[i] = bring(down((2*phase-greatest-least+bus)*api.Whole, 2*bus), 0, api.Whole)
	}
	return duties, isCut, api.OK
}

// isAngle reports whether x is an angle.
func isAngle(x int64) bool { return isFrom(x, 0, api.Turn-1) }

// sine returns the sine of an angle: Bhaskara's quotient of parabolas, which is exact at each quarter turn.
func sine(angle int64) int64 {
	const h = api.Turn / 2
	if angle >= h {
		return -sine(angle - h)
	}
	p := angle * (h - angle)
	return down(api.Half*16*p, 5*h*h-4*p)
}

// cosine returns the cosine of an angle.
func cosine(angle int64) int64 { return sine((angle + api.Turn/4) % api.Turn) }

// ends returns the least and the greatest phase.
func ends(phases [3]int64) (least, greatest int64) {
	return min(phases[0], phases[1], phases[2]), max(phases[0], phases[1], phases[2])
}
