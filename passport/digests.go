package passport

import (
	"iter"
	"slices"

	"coulomb/api"
)

// modular is how a field computes: modulo a prime, with words of some bytes, each of which is less than the prime.
type modular struct {
	prime uint64
	bytes int
}

// Words returns how many words a message has. (P7.1)
func Words(field, n int) (int, api.Errno) {
	f, ok := fieldOf(field)
	if !ok {
		return 0, api.ErrArg
	}
	if n < 0 || n > api.MaxMessage {
		return 0, api.ErrRange
	}
	return n/f.bytes + 2, api.OK
}

// Digest returns the digest of a message. (P7.1)
func Digest(field int, point uint64, msg []byte) (uint64, api.Errno) {
	return Tag(field, point, 0, msg) // with the pad 0 both are the same
}

// Tag returns the tag of a message. (P7.1)
func Tag(field int, point, pad uint64, msg []byte) (uint64, api.Errno) {
	f, ok := fieldOf(field)
	if !ok {
		return 0, api.ErrArg
	}
	if len(msg) > api.MaxMessage {
		return 0, api.ErrLong
	}
	if !f.isPoint(point) || !f.isPad(pad) {
		return 0, api.ErrRange
	}
	return f.tag(point, pad, msg), api.OK
}

// Fits returns with how many points and pads two messages have their tags. (P7.2)
func Fits(field int, m []byte, tag uint64, other []byte, forged uint64) (int, api.Errno) {
	f, ok := fieldOf(field)
	if !ok || field == api.FieldLarge {
		return 0, api.ErrArg
	}
	if len(m) > api.MaxMessage || len(other) > api.MaxMessage {
		return 0, api.ErrLong
	}
	if !f.isPad(tag) || !f.isPad(forged) {
		return 0, api.ErrRange
	}
	apart := f.minus(tag, forged)
	words := f.difference(m, other)
	fits := 0
	for point := uint64(1); f.isPoint(point); point++ { // the pad is what the point leaves of the tag
		if f.value(point, slices.Values(words)) == apart {
			fits++
		}
	}
	return fits, api.OK
}

// fieldOf returns how a field computes, if there is such a field.
func fieldOf(field int) (modular, bool) {
	switch field {
	case api.FieldSmall:
		return modular{257, 1}, true
	case api.FieldMiddle:
		return modular{65537, 2}, true
	case api.FieldLarge:
		return large(), true
	}
	return modular{}, false
}

// large is how the field of passports computes.
func large() modular { return modular{1<<31 - 1, 3} }

// isPoint reports whether a number is a point.
func (f modular) isPoint(x uint64) bool { return 0 < x && x < f.prime }

// isPad reports whether a number is a pad.
func (f modular) isPad(x uint64) bool { return x < f.prime }

// minus returns the difference of two numbers of the field.
func (f modular) minus(a, b uint64) uint64 { return (a + f.prime - b) % f.prime }

// digest returns the digest of a message.
func (f modular) digest(point uint64, msg []byte) uint64 { return f.value(point, f.words(msg)) }

// tag returns the tag of a message.
func (f modular) tag(point, pad uint64, msg []byte) uint64 {
	return (f.digest(point, msg) + pad) % f.prime
}

// value returns what words are at a point: the sum of w[i] x^(m - i).
func (f modular) value(point uint64, words iter.Seq[uint64]) uint64 {
	sum := uint64(0)
	for w := range words {
		sum = (sum*point + w) % f.prime
	}
	return sum * point % f.prime
}

// words yields the words of a message.
func (f modular) words(msg []byte) iter.Seq[uint64] {
	return func(yield func(uint64) bool) {
		if !yield(1) {
			return
		}
		for group := range slices.Chunk(f.filled(msg), f.bytes) {
			if !yield(numberOf(group)) {
				return
			}
		}
	}
}

// filled returns a message with a byte 1 behind it, and with bytes 0 that fill whole words.
func (f modular) filled(msg []byte) []byte {
	bytes := make([]byte, (len(msg)/f.bytes+1)*f.bytes)
	copy(bytes, msg)
	bytes[len(msg)] = 1
	return bytes
}

// difference returns words whose value at each point is the digest of m there, less that of other.
func (f modular) difference(m, other []byte) []uint64 {
	a, b := slices.Collect(f.words(m)), slices.Collect(f.words(other))
	words := make([]uint64, max(len(a), len(b)))
	copy(words[len(words)-len(a):], a) // the last words belong to the same power of the point
	behind := words[len(words)-len(b):]
	for i, w := range b {
		behind[i] = f.minus(behind[i], w)
	}
	return words
}

// numberOf returns the number that bytes are, with the most significant one first.
func numberOf(bytes []byte) uint64 {
	n := uint64(0)
	for _, b := range bytes {
		n = n<<8 | uint64(b)
	}
	return n
}

// appendNumber appends the last bytes of a number, with the most significant one first.
func appendNumber(l []byte, bytes int, n uint64) []byte {
	for i := range bytes {
		l = append(l, byte(n>>(8*(bytes-1-i))))
	}
	return l
}
