package cell_test

import (
	"math"
	"testing"

	"coulomb/api"
	"coulomb/cell"
)

// P2.12: the first numbers of some seeds.
func TestNext(t *testing.T) {
	for _, x := range []struct {
		seed uint64
		want [3]uint64
	}{
		{0, [3]uint64{13473309256371520605, 205591708820793437, 18309282447448061861}},
		{1, [3]uint64{3526439621695458583, 7622605774659738618, 11658942347640425391}},
		{2, [3]uint64{12026314060728948177, 14409421330374403083, 5064069000358729849}},
		{12345, [3]uint64{935075178911006727, 13722818478217924287, 5083223569191492962}},
		{1 << 62, [3]uint64{6339607446616654941, 4401257711669831773, 15702133669805143973}},
		{1<<63 - 1, [3]uint64{8667325308970227904, 14266383571112710883, 10770925643914080864}},
		{1 << 63, [3]uint64{13473309256371520605, 205591708820793437, 18309282447448061861}},
		{math.MaxUint64, [3]uint64{8667325308970227904, 14266383571112710883, 10770925643914080864}},
	} {
		d := cell.New(x.seed)
		for i, want := range x.want {
			if got := d.Next(); got != want {
				t.Errorf("number %d of the seed %d: %d", i, x.seed, got)
			}
		}
	}
}

// P2.12: a draw below n is the high half of a draw, modulo n.
func TestBelow(t *testing.T) {
	for seed := range uint64(50) {
		d := cell.New(seed)
		for _, n := range []int{1, 2, 3, 6, 10, 1000003, 1 << 31, 1<<32 - 1, 1 << 32, 1<<32 + 1, 1 << 62, math.MaxInt} {
			high := d.Copy().Next() / (1 << 32)
			if got, e := d.Below(n); e != api.OK || uint64(got) != high%uint64(n) {
				t.Errorf("below %d: %d, %d", n, got, e)
			}
		}
	}
	d := cell.New(12345)
	for _, want := range []int{3, 1, 5} {
		if got, e := d.Below(6); got != want || e != api.OK {
			t.Errorf("a die: %d, %d", got, e)
		}
	}
}

// P2.12, R2: an n that is not possible draws nothing.
func TestBelowErrors(t *testing.T) {
	d := cell.New(7)
	for _, n := range []int{0, -1, -6, math.MinInt} {
		if got, e := d.Below(n); got != 0 || e != api.ErrArg {
			t.Errorf("below %d: %d, %d", n, got, e)
		}
	}
	if got, want := d.Next(), cell.New(7).Next(); got != want {
		t.Errorf("the state has changed: %d", got)
	}
}

// P2.12, R4: a copy draws what the original would draw, and neither changes the other one.
func TestCopy(t *testing.T) {
	d := cell.New(99)
	d.Next()
	first, second := d.Copy(), d.Copy()
	var want []uint64
	for range 5 {
		want = append(want, first.Next())
	}
	first.Next()
	for i := range 5 {
		if got := d.Next(); got != want[i] {
			t.Errorf("number %d of the original: %d", i, got)
		}
	}
	again := second.Copy()
	for i := range 5 {
		if a, b := second.Next(), again.Next(); a != want[i] || b != want[i] {
			t.Errorf("number %d of the copies: %d, %d", i, a, b)
		}
	}
}

// P2.12, R4: generators that New has not made.
func TestGeneratorsThatAreNotValid(t *testing.T) {
	for _, d := range []*cell.Draws{nil, {}, new(cell.Draws)} {
		for range 2 {
			if got := d.Next(); got != 0 {
				t.Errorf("Next: %d", got)
			}
			for _, n := range []int{5, 1, 0, -1} {
				if got, e := d.Below(n); got != 0 || e != api.ErrNil {
					t.Errorf("below %d: %d, %d", n, got, e)
				}
			}
			if c := d.Copy(); c != nil {
				t.Errorf("Copy: %v", c)
			}
		}
	}
}

// P2.20: seeds below 2^63 draw different first numbers, and 0 is never drawn.
func TestSeedsAreApart(t *testing.T) {
	r := chance(8)
	firsts := map[uint64]uint64{}
	try := func(seed uint64) {
		first := cell.New(seed).Next()
		if other, found := firsts[first]; found && other != seed {
			t.Errorf("%d and %d draw the same first number", seed, other)
		}
		firsts[first] = seed
	}
	for seed := range uint64(20000) {
		try(seed)
		try(1<<63 - 1 - seed)
		try(seed << 32)
		try(uint64(r.Int63()))
	}
	for seed := range uint64(100) {
		d := cell.New(seed)
		for range 1000 {
			if d.Next() == 0 {
				t.Errorf("the seed %d draws 0", seed)
			}
		}
	}
}
