package update

import (
	"iter"

	"coulomb/api"
)

// How many raw bytes a record and a page have, and a raw byte that is blank.
const (
	rawBytes  = 2 * api.RecordBytes
	pageBytes = api.PageRecords * rawBytes
	blankByte = 255
)

// page is the raw bytes of a page.
type page [pageBytes]byte

// raw is the raw bytes of a record, where they are in its page.
type raw []byte

// place is where a record is.
type place struct{ page, record int }

// blankPage returns a page that is erased.
func blankPage() page {
	var p page
	for i := range p {
		p[i] = blankByte
	}
	return p
}

// rawOf returns the raw bytes of a record that holds some bytes.
func rawOf(b []byte) raw {
	r := make(raw, 0, rawBytes)
	for _, x := range b {
		r = append(r, x, ^x)
	}
	return r
}

// kind returns what a record is.
func (r raw) kind() int {
	switch {
	case r.isBlank():
		return api.RecordBlank
	case r.isGood():
		return api.RecordGood
	}
	return api.RecordTorn
}

// isBlank reports whether a record is as it is behind an erasure.
func (r raw) isBlank() bool {
	for _, x := range r {
		if x != blankByte {
			return false
		}
	}
	return true
}

// isGood reports whether a record holds some bytes.
func (r raw) isGood() bool {
	for i := 0; i < len(r); i += 2 {
		if r[i] != ^r[i+1] {
			return false
		}
	}
	return true
}

// held returns the bytes that a good record holds.
func (r raw) held() []byte {
	b := make([]byte, len(r)/2)
	for i := range b {
		b[i] = r[2*i]
	}
	return b
}

// record returns the raw bytes of a record.
func (f *Flash) record(at place) raw {
	return f.pages[at.page][at.record*rawBytes : (at.record+1)*rawBytes]
}

// isBlank reports whether a record is blank.
func (f *Flash) isBlank(at place) bool { return f.record(at).isBlank() }

// records yields the records of some pages, one after another.
func (f *Flash) records(first, pages int) iter.Seq2[place, raw] {
	return func(yield func(place, raw) bool) {
		for i := range pages * api.PageRecords {
			at := place{first + i/api.PageRecords, i % api.PageRecords}
			if !yield(at, f.record(at)) {
				return
			}
		}
	}
}
