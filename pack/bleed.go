package pack

import (
	"slices"

	"coulomb/api"
)

// drain is a plan that claims to lose no more, and to take no longer, than it has to, beside the right losses, the fewest ticks that these take, and how many groups may bleed at once.
type drain struct {
	api.Drain
	right        []int
	fewest, most int
}

// Bleed returns a plan that bleeds. (P4.12)
func Bleed(c []int, width, most int) (api.Drain, api.Errno) {
	if e := checkBleeding(c, width, most); e != api.OK {
		return api.Drain{}, e
	}
	loss := losses(c, width)
	return api.Drain{Loss: loss, Ticks: schedule(loss, bleedTicks(loss, most))}, api.OK
}

// CheckBleed reports whether a plan that bleeds loses no more, and takes no longer, than it has to. (P4.12)
func CheckBleed(c []int, width, most int, d api.Drain) api.Errno {
	if e := checkBleeding(c, width, most); e != api.OK {
		return e
	}
	if len(d.Loss) != len(c) {
		return api.ErrEqual
	}
	loss := losses(c, width)
	x := drain{d, loss, bleedTicks(loss, most), most}
	return checkAll(x.isLeast, x.isShortest, x.isAllowed, x.isComplete)
}

// checkBleeding returns the errors of bleeding.
func checkBleeding(c []int, width, most int) api.Errno {
	if e := checkLevels(c); e != api.OK {
		return e
	}
	if !isFrom(width, 0, api.MaxLevel) || !isFrom(most, 1, api.MaxGroups) {
		return api.ErrRange
	}
	return api.OK
}

// losses returns how much each group loses.
func losses(c []int, width int) []int {
	loss, least := make([]int, len(c)), slices.Min(c)
	for i, level := range c {
		loss[i] = max(0, level-least-width)
	}
	return loss
}

// bleedTicks returns in how many ticks groups lose levels, if at most so many of them bleed at once.
func bleedTicks(loss []int, most int) int {
	return max(slices.Max(loss), (sumOf(loss)+most-1)/most)
}

// schedule returns which groups bleed in each tick: in turn, so that no tick has a group twice, as none loses more levels than there are ticks.
func schedule(loss []int, count int) [][]int {
	list, k := make([][]int, count), 0
	for i, levels := range loss {
		for range levels {
			list[k%count] = append(list[k%count], i)
			k++
		}
	}
	return list
}

// isLeast reports whether the losses are the right ones.
func (d drain) isLeast() bool { return slices.Equal(d.Loss, d.right) }

// isShortest reports whether there are no more ticks than the losses take.
func (d drain) isShortest() bool { return len(d.Ticks) <= d.fewest }

// isAllowed reports whether each tick has at most as many groups as may bleed at once, and none that there is not, or twice.
func (d drain) isAllowed() bool {
	for _, list := range d.Ticks {
		if len(list) > d.most || !areFrom(list, 0, len(d.right)-1) {
			return false
		}
		for k, i := range list {
			if slices.Contains(list[:k], i) {
				return false
			}
		}
	}
	return true
}

// isComplete reports whether each group is in as many ticks as it loses levels. Groups that there are not do not count.
func (d drain) isComplete() bool {
	count := make([]int, len(d.right))
	for _, list := range d.Ticks {
		for _, i := range list {
			if isFrom(i, 0, len(count)-1) {
				count[i]++
			}
		}
	}
	return slices.Equal(count, d.right)
}
