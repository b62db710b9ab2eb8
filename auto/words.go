package auto

import (
	"iter"
	"math"
	"math/bits"
	"slices"

	"ablaut/api"
	"ablaut/feats"
)

// tally is how many words there are: low, and high times 2^64. There are at most 8^32 words of a length, which is 2^96.
type tally struct {
	high, low uint64
}

func (t tally) plus(other tally) tally {
	low, carry := bits.Add64(t.low, other.low, 0)
	high, _ := bits.Add64(t.high, other.high, carry)
	return tally{high, low}
}

// small returns the number if it fits.
func (t tally) small() (int64, bool) {
	if t.high != 0 || t.low > math.MaxInt64 {
		return 0, false
	}
	return int64(t.low), true
}

// ahead returns for each number of sounds, up to some number, and each state how many lists of so many sounds lead from it to what is accepted.
func (a *Auto) ahead(most int) [][]tally {
	now := make([]tally, len(a.states))
	for at, s := range a.states {
		if s.accepts {
			now[at] = tally{low: 1}
		}
	}
	all := [][]tally{now}
	for range most {
		before := make([]tally, len(a.states))
		for at, s := range a.states {
			for i := range a.sounds {
				before[at] = before[at].plus(now[s.next[i]])
			}
		}
		all, now = append(all, before), before
	}
	return all
}

// words yields the words that are accepted, in their order.
func (a *Auto) words() iter.Seq[api.Word] {
	return func(yield func(api.Word) bool) {
		ahead := a.ahead(api.MaxWord)
		for n := range ahead {
			for w := range a.ofLength(n, ahead) {
				if !yield(w) {
					return
				}
			}
		}
	}
}

// ofLength yields the words of n sounds that are accepted, in their order.
func (a *Auto) ofLength(n int, ahead [][]tally) iter.Seq[api.Word] {
	return func(yield func(api.Word) bool) {
		order := a.order()
		var extend func(w api.Word, at int) bool
		extend = func(w api.Word, at int) bool {
			left := n - len(w)
			if ahead[left][at] == (tally{}) {
				return true
			}
			if left == 0 {
				return yield(slices.Clone(w))
			}
			for _, i := range order {
				if !extend(append(w, a.sounds[i]), a.states[at].next[i]) {
					return false
				}
			}
			return true
		}
		extend(nil, 0)
	}
}

// order returns the indexes of the sounds of the alphabet in the order of the sounds.
func (a *Auto) order() []int {
	var l []int
	for i := range a.sounds {
		l = append(l, i)
	}
	slices.SortFunc(l, func(i, j int) int { return feats.Order(a.sounds[i], a.sounds[j]) })
	return l
}
