package passport_test

import (
	"bytes"
	"math"
	"testing"

	"coulomb/api"
	"coulomb/passport"
)

// wildFields are no fields.
func wildFields() []int {
	return []int{-1, 3, 4, 257, 1 << 32, 1<<32 + 1, -1 << 32, math.MinInt, math.MaxInt}
}

// P7.1: the number of words of messages of each length.
func TestWords(t *testing.T) {
	for field := range 3 {
		for n := range mostMessage + 1 {
			same(t, answerOf(passport.Words(field, n)), good(len(wordsOf(field, make([]byte, n)))), "Words", field, n)
		}
		for _, n := range wildIndexes(mostMessage + 1) {
			same(t, answerOf(passport.Words(field, n)), bad[int](api.ErrRange), "Words", field, n)
		}
	}
	same(t, answerOf(passport.Words(api.FieldLarge, 1000)), good(335), "Words", 1000)
	for _, field := range wildFields() {
		for _, n := range []int{0, 1, -1, 1001} {
			same(t, answerOf(passport.Words(field, n)), bad[int](api.ErrArg), "Words", field, n)
		}
	}
}

// checkDigest checks the digest of a message, and its tags.
func checkDigest(t *testing.T, field int, point uint64, msg []byte, want uint64) {
	t.Helper()
	p, _, _ := wantField(field)
	prime := uint64(p)
	same(t, answerOf(passport.Digest(field, point, msg)), good(want), "Digest", field, point, msg)
	for _, pad := range []uint64{0, 1, prime - 1, prime - want, prime - 1 - want, (want*want + 5) % prime} {
		if pad < prime {
			same(t, answerOf(passport.Tag(field, point, pad, msg)), good((want+pad)%prime), "Tag", field, point, pad, msg)
		}
	}
}

// P7.1: digests and tags that are reckoned by hand.
func TestDigestsByHand(t *testing.T) {
	for _, x := range []struct {
		field int
		point uint64
		msg   []byte
		want  uint64
	}{
		{api.FieldSmall, 2, nil, 6},                          // 1, 1
		{api.FieldSmall, 2, []byte{5}, 30},                   // 1, 5, 1
		{api.FieldSmall, 1, []byte{5}, 7},                    // the sum of the words
		{api.FieldSmall, 10, []byte{2, 3}, 1231*10 - 47*257}, // 1, 2, 3, 1
		{api.FieldSmall, 256, []byte{255}, 253},              // -1 + 255 - 1
		{api.FieldSmall, 2, []byte{0}, 10},
		{api.FieldSmall, 2, []byte{0, 0}, 18},
		{api.FieldSmall, 2, []byte{1}, 14},
		{api.FieldSmall, 2, []byte{1, 0}, 26},
		{api.FieldMiddle, 1, nil, 257},                          // 1, 0x0100
		{api.FieldMiddle, 1, []byte{0}, 2},                      // 1, 0x0001
		{api.FieldMiddle, 1, []byte{3}, 1 + 3*256 + 1},          // 1, 0x0301
		{api.FieldMiddle, 1, []byte{3, 4}, 1 + 3*256 + 4 + 256}, // 1, 0x0304, 0x0100
		{api.FieldMiddle, 3, []byte{3, 4}, 27 + 772*9 + 256*3},
		{api.FieldMiddle, 65536, []byte{255, 255}, 65278}, // -1 + 65535 - 256
		{api.FieldLarge, 1, nil, 1 + 65536},
		{api.FieldLarge, 1, []byte{0}, 1 + 256},
		{api.FieldLarge, 1, []byte{0, 0}, 1 + 1},
		{api.FieldLarge, 1, []byte{0, 0, 0}, 1 + 65536},
		{api.FieldLarge, 10, []byte{1, 2, 3}, 1000 + 66051*100 + 65536*10},
		{api.FieldLarge, 1 << 16, nil, 4}, // 2^32 + 2^32
		{api.FieldLarge, largePrime - 1, []byte{255, 255, 255}, 1<<24 - 1 - 1 - 65536},
	} {
		checkDigest(t, x.field, x.point, x.msg, x.want)
	}
	same(t, answerOf(passport.Tag(api.FieldSmall, 2, 250, []byte{5})), good(uint64(23)), "Tag")
	same(t, answerOf(passport.Tag(api.FieldSmall, 2, 256, []byte{5})), good(uint64(29)), "Tag")
}

// P7.1: digests and tags of all messages of no byte, or of one, at all points of the small field, and of drawn ones.
func TestDigests(t *testing.T) {
	for point := uint64(1); point <= 256; point++ {
		checkDigest(t, api.FieldSmall, point, nil, digestOf(0, point, nil))
		for b := range 256 {
			checkDigest(t, api.FieldSmall, point, []byte{byte(b)}, digestOf(0, point, []byte{byte(b)}))
		}
	}
	r := chance(1)
	for i := range 6000 {
		field := i % 3
		p, _, _ := wantField(field)
		point, msg := uint64(drawFrom(r, 1, p-1)), drawBytes(r, int(drawFrom(r, 0, pick[int64](r, 10, 10, 100, mostMessage))))
		checkDigest(t, field, point, msg, digestOf(field, point, msg))
	}
}

// P7.1, P7.2: messages of the greatest length, and longer ones.
func TestLongMessages(t *testing.T) {
	for field := range 3 {
		p, _, _ := wantField(field)
		last := uint64(p - 1)
		for _, b := range []byte{0, 1, 255} {
			msg := bytes.Repeat([]byte{b}, mostMessage)
			for _, point := range []uint64{1, 2, last - 1, last} {
				checkDigest(t, field, point, msg, digestOf(field, point, msg))
			}
		}
		for _, n := range []int{mostMessage + 1, mostMessage + 2, 5000, 1 << 20} {
			long := make([]byte, n)
			for _, point := range []uint64{1, 0, last, last + 1} { // ErrLong is before ErrRange
				same(t, answerOf(passport.Digest(field, point, long)), bad[uint64](api.ErrLong), "Digest of a long message", field, n)
				same(t, answerOf(passport.Tag(field, point, 5, long)), bad[uint64](api.ErrLong), "Tag of a long message", field, n)
				same(t, answerOf(passport.Tag(field, 5, point, long)), bad[uint64](api.ErrLong), "Tag of a long message", field, n)
			}
		}
	}
}

// P7.1: points, pads and fields that there are not.
func TestWildPoints(t *testing.T) {
	for field := range 3 {
		p, _, _ := wantField(field)
		prime := uint64(p)
		for _, x := range []uint64{prime, prime + 1, 2 * prime, 2*prime + 1, 1 << 32, 1<<32 + 1, 1 << 63, math.MaxUint64 - 1, math.MaxUint64} {
			same(t, answerOf(passport.Digest(field, x, nil)), bad[uint64](api.ErrRange), "Digest", field, x)
			same(t, answerOf(passport.Tag(field, x, 0, nil)), bad[uint64](api.ErrRange), "Tag", field, x, 0)
			same(t, answerOf(passport.Tag(field, 1, x, nil)), bad[uint64](api.ErrRange), "Tag", field, 1, x)
		}
		same(t, answerOf(passport.Digest(field, 0, nil)), bad[uint64](api.ErrRange), "Digest", field, 0)
		same(t, answerOf(passport.Tag(field, 0, 0, nil)), bad[uint64](api.ErrRange), "Tag", field, 0, 0)
	}
	for _, field := range wildFields() {
		for _, msg := range [][]byte{nil, make([]byte, 1001)} { // ErrArg is before the others
			for _, x := range []uint64{0, 1, 1 << 40} {
				same(t, answerOf(passport.Digest(field, x, msg)), bad[uint64](api.ErrArg), "Digest", field, x)
				same(t, answerOf(passport.Tag(field, x, x, msg)), bad[uint64](api.ErrArg), "Tag", field, x, x)
			}
		}
	}
}

// wantFits counts the pairs of a point and a pad, of which for each point the pad is tried that is the difference of the tag and the digest; in the small field all pads are tried.
func wantFits(field int, m []byte, tag uint64, other []byte, forged uint64) int {
	p, _, _ := wantField(field)
	prime := uint64(p)
	fits := 0
	for point := uint64(1); point < prime; point++ {
		a, b := digestOf(field, point, m), digestOf(field, point, other)
		from, to := uint64(0), prime-1
		if field != api.FieldSmall {
			from = (tag + prime - a) % prime
			to = from
		}
		for pad := from; pad <= to; pad++ {
			if (a+pad)%prime == tag && (b+pad)%prime == forged {
				fits++
			}
		}
	}
	return fits
}

// P7.2: what is counted in the small field, for messages by hand and for drawn ones.
func TestFits(t *testing.T) {
	same(t, answerOf(passport.Fits(api.FieldSmall, nil, 7, nil, 7)), good(256), "Fits of the same")
	same(t, answerOf(passport.Fits(api.FieldSmall, nil, 7, nil, 8)), good(0), "Fits of the same")
	same(t, answerOf(passport.Fits(api.FieldMiddle, []byte{1, 2}, 7, []byte{1, 2}, 7)), good(65536), "Fits of the same")
	same(t, answerOf(passport.Fits(api.FieldMiddle, []byte{1, 2}, 7, []byte{1, 2}, 65536)), good(0), "Fits of the same")
	same(t, answerOf(passport.Fits(api.FieldSmall, []byte{3}, 10, []byte{1}, 2)), good(2), "Fits") // 2 x^2 is 8
	same(t, answerOf(passport.Fits(api.FieldSmall, []byte{3}, 8, []byte{1}, 2)), good(0), "Fits")  // 2 x^2 is 6
	r := chance(2)
	for range 300 {
		m, other := drawBytes(r, r.Intn(6)), drawBytes(r, r.Intn(6))
		if r.Intn(3) == 0 {
			other = bytes.Clone(m)
			if len(m) > 0 {
				other[r.Intn(len(m))] = pick[byte](r, 0, 1, 255)
			}
		}
		tag, forged := uint64(drawFrom(r, 0, 256)), uint64(drawFrom(r, 0, 256))
		for _, f := range []uint64{forged, tag, 0, 256} {
			same(t, answerOf(passport.Fits(api.FieldSmall, m, tag, other, f)), good(wantFits(api.FieldSmall, m, tag, other, f)), "Fits", m, tag, other, f)
		}
	}
}

// P7.2: what is counted in the middle field, and for messages of the greatest length.
func TestFitsOfGreatNumbers(t *testing.T) {
	r := chance(3)
	for range 4 {
		m, other := drawBytes(r, r.Intn(9)), drawBytes(r, r.Intn(9))
		tag, forged := uint64(drawFrom(r, 0, 65536)), uint64(drawFrom(r, 0, 65536))
		same(t, answerOf(passport.Fits(api.FieldMiddle, m, tag, other, forged)), good(wantFits(api.FieldMiddle, m, tag, other, forged)), "Fits", m, tag, other, forged)
	}
	same(t, answerOf(passport.Fits(api.FieldMiddle, []byte{0}, 65536, nil, 0)), good(wantFits(api.FieldMiddle, []byte{0}, 65536, nil, 0)), "Fits")
	long := drawBytes(r, mostMessage)
	changed := bytes.Clone(long)
	changed[mostMessage-1] ^= 3 // x^2 times the difference
	same(t, answerOf(passport.Fits(api.FieldSmall, long, 9, changed, 6)), good(wantFits(api.FieldSmall, long, 9, changed, 6)), "Fits of long messages")
	same(t, answerOf(passport.Fits(api.FieldMiddle, long, 9, long, 9)), good(65536), "Fits of the same long message")
	same(t, answerOf(passport.Fits(api.FieldMiddle, long, 9, long, 10)), good(0), "Fits of the same long message")
}

// P7.2: errors, in their order.
func TestFitsErrors(t *testing.T) {
	long := make([]byte, mostMessage+1)
	for _, field := range append(wildFields(), api.FieldLarge) {
		for _, msg := range [][]byte{nil, long} {
			same(t, answerOf(passport.Fits(field, msg, 0, nil, 0)), bad[int](api.ErrArg), "Fits", field)
			same(t, answerOf(passport.Fits(field, nil, 0, msg, math.MaxUint64)), bad[int](api.ErrArg), "Fits", field)
		}
	}
	for _, field := range []int{api.FieldSmall, api.FieldMiddle} {
		p, _, _ := wantField(field)
		last := uint64(p - 1)
		for _, x := range []uint64{0, last, last + 1, last + 2, 1 << 32, math.MaxUint64} {
			same(t, answerOf(passport.Fits(field, long, x, nil, 0)), bad[int](api.ErrLong), "Fits of a long message", field)
			same(t, answerOf(passport.Fits(field, nil, 0, long, x)), bad[int](api.ErrLong), "Fits of a long message", field)
			want := bad[int](api.ErrRange)
			if x <= last {
				want = good(int(last))
			}
			same(t, answerOf(passport.Fits(field, nil, x, nil, x)), want, "Fits", field, x, x)
			if x > last {
				same(t, answerOf(passport.Fits(field, nil, x, nil, 0)), want, "Fits", field, x, 0)
				same(t, answerOf(passport.Fits(field, nil, 0, nil, x)), want, "Fits", field, 0, x)
			}
		}
	}
}
