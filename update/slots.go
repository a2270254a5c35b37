package update

import (
	"iter"

	"coulomb/api"
	"coulomb/passport"
	"coulomb/protect"
)

// The records of the first page of a slot. Behind the first two of them they are marks: what counts is that they are not blank.
const (
	imageRecord = 0
	sealRecord  = 1
	readyMark   = 2
	firstTrial  = 3
	goodMark    = firstTrial + api.MaxTrials
	badMark     = goodMark + 1
)

// The limits of an image.
const (
	mostSize = api.MaxBlocks * api.RecordBytes
	mostSeal = 1<<32 - 1
)

// slot is a slot on a flash.
type slot struct {
	*Flash
	first int
}

// Seal returns the seal of bytes. (P10.6)
func Seal(key uint64, b []byte) (uint64, api.Errno) {
	return passport.Digest(api.FieldLarge, key, b)
}

// Write writes an image into a slot. (P10.7)
func Write(f *Flash, first int, im api.Image, b []byte) api.Errno {
	s := slot{f, first}
	if e := s.check(); e != api.OK {
		return e
	}
	if !isImage(im) {
		return api.ErrRange
	}
	if len(b) != im.Size {
		return api.ErrArg
	}
	return attempt(func() { s.write(im, b) })
}

// Look returns what can be read of a slot. (P10.8)
func Look(f *Flash, first int) (api.Slot, api.Errno) {
	s := slot{f, first}
	if e := s.check(); e != api.OK {
		return api.Slot{}, e
	}
	return s.look(), api.OK
}

// Guard returns the guard of a slot that can be run. (P10.8)
func Guard(f *Flash, first int, key uint64) (api.Guard, bool, api.Errno) {
	s := slot{f, first}
	if e := s.check(); e != api.OK {
		return api.Guard{}, false, e
	}
	if !isKey(key) {
		return api.Guard{}, false, api.ErrArg
	}
	g, can := s.guard(key)
	return g, can, api.OK
}

// isImage reports whether a slot can hold an image.
func isImage(im api.Image) bool {
	return isFrom(im.Version, 1, api.MaxVersion-1) && isFrom(im.Size, 1, mostSize) && im.Seal <= mostSeal
}

// isKey reports whether a number can be a key.
func isKey(key uint64) bool {
	_, e := Seal(key, nil)
	return e == api.OK
}

// blocksOf returns how many blocks some bytes have.
func blocksOf(size int) int { return (size + api.RecordBytes - 1) / api.RecordBytes }

// check returns the errors of a slot.
func (s slot) check() api.Errno { return s.checkPages(s.first, api.SlotPages) }

// mark returns where a record of the first page is.
func (s slot) mark(record int) place { return place{s.first, record} }

// block returns where a block is.
func (s slot) block(k int) place {
	return place{s.first + 1 + k/api.PageRecords, k % api.PageRecords}
}

// has reports whether there is a mark.
func (s slot) has(mark int) bool { return !s.isBlank(s.mark(mark)) }

// set programs a mark.
func (s slot) set(mark int) { s.program(s.mark(mark), bytesOf(0)) }

// try marks a trial, with the first mark that there is not. An erasure that was cut may have left later ones.
func (s slot) try() {
	for i := range api.MaxTrials {
		if !s.has(firstTrial + i) {
			s.set(firstTrial + i)
			return
		}
	}
}

// fill programs a record if it is blank.
func (s slot) fill(at place, b []byte) {
	if s.isBlank(at) {
		s.program(at, b)
	}
}

// erasures returns the pages in the order in which they are erased: when the marks are gone, no block is left.
func (s slot) erasures() []int {
	var l []int
	for i := 1; i < api.SlotPages; i++ {
		l = append(l, s.first+i)
	}
	return append(l, s.first)
}

// write writes an image, which is good then.
func (s slot) write(im api.Image, b []byte) {
	for _, p := range s.erasures() {
		s.erase(p)
	}
	s.program(s.mark(imageRecord), imageBytes(im))
	s.program(s.mark(sealRecord), sealBytes(im))
	filled := make([]byte, blocksOf(len(b))*api.RecordBytes)
	copy(filled, b)
	for k := range blocksOf(len(b)) {
		s.program(s.block(k), filled[k*api.RecordBytes:(k+1)*api.RecordBytes])
	}
	s.set(readyMark)
	s.set(goodMark)
}

// imageBytes and sealBytes return what the first two records of a slot hold.
func imageBytes(im api.Image) []byte {
	return bytesOf(uint64(im.Version)<<upperHalf | uint64(im.Size)<<sizeShift)
}
func sealBytes(im api.Image) []byte { return bytesOf(im.Seal << upperHalf) }

// look returns what can be read of a slot.
func (s slot) look() api.Slot {
	var x api.Slot
	x.Image, x.Set = s.image()
	for k, r := range s.blocks(x.Image.Size) {
		if r.kind() != api.RecordGood {
			x.Missing = append(x.Missing, k)
		}
	}
	x.Ready, x.Good, x.Bad = s.has(readyMark), s.has(goodMark), s.has(badMark)
	for i := range api.MaxTrials {
		if s.has(firstTrial + i) {
			x.Trials++
		}
	}
	for _, r := range s.records(s.first, api.SlotPages) {
		x.Torn = x.Torn || r.kind() == api.RecordTorn
	}
	return x
}

// image returns the image that the first two records hold, if they do.
func (s slot) image() (api.Image, bool) {
	if !s.isGood(imageRecord) || !s.isGood(sealRecord) {
		return api.Image{}, false
	}
	n, seal := numberOf(s.record(s.mark(imageRecord)).held()), numberOf(s.record(s.mark(sealRecord)).held())
	im := api.Image{Version: int(n >> upperHalf), Size: int(uint16(n >> sizeShift)), Seal: seal >> upperHalf}
	if !isImage(im) {
		return api.Image{}, false
	}
	return im, true
}

// isGood reports whether a record of the first page is good.
func (s slot) isGood(record int) bool { return s.record(s.mark(record)).kind() == api.RecordGood }

// blocks yields the records of the blocks of an image with a size, one after another.
func (s slot) blocks(size int) iter.Seq2[int, raw] {
	return func(yield func(int, raw) bool) {
		for k := range blocksOf(size) {
			if !yield(k, s.record(s.block(k))) {
				return
			}
		}
	}
}

// bytes returns the bytes of a slot of which no block is missing.
func (s slot) bytes(size int) []byte {
	var b []byte
	for _, r := range s.blocks(size) {
		b = append(b, r.held()...)
	}
	return b[:size]
}

// fit returns the guard of a slot, and whether it fits.
func (s slot) fit(x api.Slot, key uint64) (api.Guard, bool) {
	if !x.Set || len(x.Missing) > 0 {
		return api.Guard{}, false
	}
	b := s.bytes(x.Image.Size)
	if seal, e := Seal(key, b); e != api.OK || seal != x.Image.Seal {
		return api.Guard{}, false
	}
	g, e := protect.Parse(string(b))
	return g, e == api.OK
}

// guard returns the guard of a slot that can be run, and whether it can be.
func (s slot) guard(key uint64) (api.Guard, bool) {
	x := s.look()
	if !x.Ready || x.Bad || !x.Good && x.Trials >= api.MaxTrials {
		return api.Guard{}, false
	}
	return s.fit(x, key)
}
