package drive_test

import (
	"math/rand"
	"slices"
	"testing"

	"coulomb/api"
	"coulomb/drive"
)

// shared is what Shares returns.
type shared struct {
	l []int64
	e api.Errno
}

// checkShares checks what Shares returns.
func checkShares(t *testing.T, total int64, most []int64, want shared) {
	t.Helper()
	if l, e := drive.Shares(total, most); !slices.Equal(l, want.l) || e != want.e {
		t.Errorf("Shares %d, %v: %v, %d, not %v", total, most, l, e, want)
	}
}

// P6.12: a demand at both ends of the electric torque, within it, and beyond it.
func TestSomeBlends(t *testing.T) {
	s := span(-60, 80)
	const x = mostTorque
	for _, l := range []struct {
		demand int64
		s      api.Span
		brake  int64
		want   numbers
	}{
		{-100, s, 30, good(-60, 30)}, {100, s, 30, good(80, 0)}, {-50, s, 30, good(-50, 0)}, {-200, s, 30, good(-60, 30)}, {90, s, 30, good(80, 0)},
		{-60, s, 30, good(-60, 0)}, {-61, s, 30, good(-60, 1)}, {-59, s, 30, good(-59, 0)}, {-89, s, 30, good(-60, 29)}, {-90, s, 30, good(-60, 30)}, {-91, s, 30, good(-60, 30)},
		{80, s, 30, good(80, 0)}, {81, s, 30, good(80, 0)}, {79, s, 30, good(79, 0)}, {0, s, 30, good(0, 0)}, {1, s, 30, good(1, 0)}, {-1, s, 30, good(-1, 0)},
		{0, span(0, 0), 0, good(0, 0)}, {-5, span(0, 0), 0, good(0, 0)}, {-5, span(0, 0), 7, good(0, 5)}, {5, span(0, 0), 7, good(0, 0)}, {5, span(-9, 0), 7, good(0, 0)}, {-5, span(0, 9), 3, good(0, 3)}, {-70, s, 0, good(-60, 0)},
		{-x, span(-x, x), x, good(-x, 0)}, {x, span(-x, x), x, good(x, 0)}, {-x, span(0, 0), x, good(0, x)}, {-x, span(-1, 0), x, good(-1, x-1)}, {-x, span(0, x), x - 1, good(0, x-1)},
		{1, span(1, 2), 0, bad(api.ErrArg)}, {1, span(-2, -1), 0, bad(api.ErrArg)}, {0, span(1, -1), 0, bad(api.ErrArg)}, {0, span(x, x), x, bad(api.ErrArg)}, {0, span(-x, -x), x, bad(api.ErrArg)},
		{0, span(1, x+1), 0, bad(api.ErrRange)}, {x + 1, span(1, 2), 0, bad(api.ErrRange)}, {0, span(1, 2), -1, bad(api.ErrRange)}, {0, span(1, 2), x + 1, bad(api.ErrRange)},
	} {
		same(t, numbersOf(drive.Blend(l.demand, l.s, l.brake)), l.want, "Blend", l)
	}
	for _, x := range beyond(mostTorque) {
		for _, l := range [][3]int64{{x, 0, 0}, {0, x, 0}, {0, 0, x}, {x, x, x}, {0, x, x}} {
			same(t, numbersOf(drive.Blend(l[0], span(l[1], l[2]), 0)), bad(api.ErrRange), "Blend", l)
		}
	}
	for _, x := range outside(0, mostTorque) {
		same(t, numbersOf(drive.Blend(0, span(0, 0), x)), bad(api.ErrRange), "Blend", x)
	}
}

// P6.12, P6.19: small blends in full: electric torque and brake do not work against each other, and no other ones are nearer to the demand.
func TestBlendsAreNearest(t *testing.T) {
	for demand := int64(-9); demand <= 9; demand++ {
		for lo := int64(-4); lo <= 0; lo++ {
			for hi := range int64(5) {
				for brake := range int64(4) {
					torque, used, e := drive.Blend(demand, span(lo, hi), brake)
					same(t, numbersOf(torque, used, e), wantBlend(demand, span(lo, hi), brake), "Blend", demand, lo, hi, brake)
					if torque < lo || torque > hi || used < 0 || used > brake || used > 0 && (demand >= 0 || torque != lo) {
						t.Errorf("Blend %d, %d..%d, %d: %d, %d", demand, lo, hi, brake, torque, used)
					}
					for x := lo; x <= hi; x++ {
						for y := range brake + 1 {
							if far := demand - (torque - used); max(far, -far) > max(demand-(x-y), x-y-demand) {
								t.Errorf("Blend %d, %d..%d, %d: %d, %d, and %d, %d are nearer", demand, lo, hi, brake, torque, used, x, y)
							}
						}
					}
				}
			}
		}
	}
}

// P6.12, P6.19: drawn blends.
func TestDrawnBlends(t *testing.T) {
	r := chance(18)
	for range 10000 {
		s := span(-drawFrom(r, 0, mostTorque), drawFrom(r, 0, mostTorque))
		demand, brake := drawAny(r, drawUpTo(r, mostTorque), s.Lo-1, s.Lo, s.Hi, s.Hi+1), drawFrom(r, 0, mostTorque)
		same(t, numbersOf(drive.Blend(demand, s, brake)), wantBlend(demand, s, brake), "Blend", demand, s, brake)
	}
}

// P6.12: a total of 0, the sum of all, above it, and totals that leave a rest.
func TestSomeShares(t *testing.T) {
	const x = mostTorque
	for _, l := range []struct {
		total      int64
		most, want []int64
	}{
		{10, []int64{2, 9, 9}, []int64{2, 4, 4}}, {100, []int64{2, 9, 9}, []int64{2, 9, 9}}, {11, []int64{9, 1, 9, 9}, []int64{4, 1, 3, 3}}, {12, []int64{9, 1, 9, 9}, []int64{4, 1, 4, 3}}, {13, []int64{9, 1, 9, 9}, []int64{4, 1, 4, 4}},
		{0, []int64{2, 9, 9}, []int64{0, 0, 0}}, {1, []int64{2, 9, 9}, []int64{1, 0, 0}}, {2, []int64{2, 9, 9}, []int64{1, 1, 0}}, {19, []int64{2, 9, 9}, []int64{2, 9, 8}}, {20, []int64{2, 9, 9}, []int64{2, 9, 9}}, {21, []int64{2, 9, 9}, []int64{2, 9, 9}},
		{1, []int64{0, 0, 5}, []int64{0, 0, 1}}, {2, []int64{0, 1, 0, 1}, []int64{0, 1, 0, 1}}, {1, []int64{0, 1, 0, 1}, []int64{0, 1, 0, 0}}, {5, []int64{0, 0}, []int64{0, 0}}, {0, []int64{0}, []int64{0}}, {7, []int64{9}, []int64{7}},
		{x, []int64{x, x, x}, []int64{x/3 + 1, x / 3, x / 3}}, {x, []int64{x}, []int64{x}}, {x - 1, []int64{x}, []int64{x - 1}}, {x, []int64{x, x, x, x, x, x, x, x}, slices.Repeat([]int64{x / 8}, 8)}, {x, []int64{1, x, 1}, []int64{1, x - 2, 1}},
		{15, []int64{9, 9, 9, 9, 9, 9, 9, 9}, []int64{2, 2, 2, 2, 2, 2, 2, 1}},
	} {
		checkShares(t, l.total, l.most, shared{l: l.want})
	}
}

// P6.12: how many wheels there may be, and how much; the first comes first.
func TestWildShares(t *testing.T) {
	for _, total := range append(outside(0, mostTorque), 0, 5) {
		for _, n := range []int{0, 9, 100} {
			checkShares(t, total, make([]int64, n), shared{e: api.ErrMany})
		}
		checkShares(t, total, nil, shared{e: api.ErrMany})
		checkShares(t, total, slices.Repeat([]int64{-1}, 9), shared{e: api.ErrMany})
	}
	for _, x := range outside(0, mostTorque) {
		checkShares(t, x, []int64{5}, shared{e: api.ErrRange})
		for i := range 8 {
			most := []int64{1, 2, 3, 4, 5, 6, 7, 8}
			most[i] = x
			checkShares(t, 5, most, shared{e: api.ErrRange})
			checkShares(t, mostTorque+1, most, shared{e: api.ErrRange})
		}
	}
}

// leastGreatest is the least greatest share with which some wheels can share a sum, by trying all ways.
func leastGreatest(sum int64, most []int64) int64 {
	if len(most) == 0 {
		if sum == 0 {
			return 0
		}
		return mostTorque
	}
	best := int64(mostTorque)
	for x := range min(sum, most[0]) + 1 {
		best = min(best, max(x, leastGreatest(sum-x, most[1:])))
	}
	return best
}

// P6.20: small shares in full.
func TestSharesAreEven(t *testing.T) {
	for n := range int64(5 * 5 * 5 * 5) {
		most := []int64{n % 5, n / 5 % 5, n / 25 % 5, n / 125}
		for len(most) > 1 && most[len(most)-1] == 0 && n%3 > 0 { // fewer wheels, too
			most = most[:len(most)-1]
		}
		all := int64(0)
		for _, x := range most {
			all += x
		}
		for total := range all + 3 {
			checkShares(t, total, most, shared{l: wantShares(total, most)})
			l, _ := drive.Shares(total, most)
			sum := int64(0)
			for i, x := range l {
				if x < 0 || x > most[i] {
					t.Errorf("Shares %d, %v: %v", total, most, l)
				}
				sum += x
			}
			if sum != min(total, all) || slices.Max(l) != leastGreatest(sum, most) {
				t.Errorf("Shares %d, %v: %v, with the sum %d", total, most, l, sum)
			}
		}
	}
}

// drawWheels draws greatest torques.
func drawWheels(r *rand.Rand, most int64) []int64 {
	l := make([]int64, 1+r.Intn(8))
	for i := range l {
		l[i] = drawFrom(r, 0, most)
	}
	return l
}

// P6.12, P6.20: drawn shares, small and great ones. A great one is even, and what is more is with the first wheels.
func TestDrawnShares(t *testing.T) {
	r := chance(19)
	for range 5000 {
		most, total := drawWheels(r, 50), drawInt(r, 0, 200)
		checkShares(t, total, most, shared{l: wantShares(total, most)})
		most, total = drawWheels(r, mostTorque), drawFrom(r, 0, mostTorque)
		l, e := drive.Shares(total, most)
		if e != api.OK || len(l) != len(most) {
			t.Fatalf("Shares %d, %v: %v, %d", total, most, l, e)
		}
		sum, all, level, isOver := int64(0), int64(0), int64(mostTorque), false
		for i, x := range l {
			sum, all = sum+x, all+most[i]
			if x < most[i] {
				level = min(level, x)
			}
		}
		for i, x := range l {
			if x < 0 || x > most[i] || x > level+1 || isOver && x > level {
				t.Errorf("Shares %d, %v: %v, with the level %d", total, most, l, level)
			}
			isOver = isOver || x == level && most[i] > level
		}
		if sum != min(total, all) {
			t.Errorf("Shares %d, %v: %v, with the sum %d", total, most, l, sum)
		}
	}
}
