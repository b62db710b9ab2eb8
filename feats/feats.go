// Package feats is layer 1: values of features, in sounds and in conditions for sounds. See shared/doc/01-feats.md.
package feats

import (
	"cmp"
	"iter"
	"math/bits"

	"ablaut/api"
)

// all is the set of all features.
const all uint32 = 1<<api.MaxFeats - 1

// Valid reports whether a sound is valid.
func Valid(s api.Sound) bool {
	return s.Plus&s.Minus == 0 && within(valued(s))
}

// Get returns the value of a feature: 1, -1, or 0.
func Get(s api.Sound, f int) int {
	if !Valid(s) || !exists(f) {
		return 0
	}
	switch bit := single(f); {
	case s.Plus&bit != 0:
		return 1
	case s.Minus&bit != 0:
		return -1
	}
	return 0
}

// With returns a sound with another value of a feature.
func With(s api.Sound, f, v int) (api.Sound, api.Errno) {
	if !Valid(s) {
		return api.Sound{}, api.ErrSound
	}
	if !exists(f) {
		return api.Sound{}, api.ErrRange
	}
	rest := without(s, single(f))
	switch v {
	case 1:
		rest.Plus |= single(f)
	case -1:
		rest.Minus |= single(f)
	case 0:
	default:
		return api.Sound{}, api.ErrArg
	}
	return rest, api.OK
}

// Satisfies reports whether a sound has all values of a condition.
func Satisfies(s, cond api.Sound) bool {
	return bothValid(s, cond) && Meet(s, cond) == cond
}

// Unify returns the sound with the values of both.
func Unify(a, b api.Sound) (api.Sound, bool) {
	// More values never make a sound valid, so the check of the union covers both.
	u := union(a, b)
	if !Valid(u) {
		return api.Sound{}, false
	}
	return u, true
}

// Meet returns the values that two sounds have in common.
func Meet(a, b api.Sound) api.Sound {
	if !bothValid(a, b) {
		return api.Sound{}
	}
	return api.Sound{Plus: a.Plus & b.Plus, Minus: a.Minus & b.Minus}
}

// Diff returns the features in which two sounds differ.
func Diff(a, b api.Sound) uint32 {
	if !bothValid(a, b) {
		return 0
	}
	return (a.Plus ^ b.Plus) | (a.Minus ^ b.Minus)
}

// CheckCosts reports whether costs are valid.
func CheckCosts(c api.Costs) api.Errno {
	if len(c.Weights) > api.MaxFeats || !isCost(c.Gap) {
		return api.ErrArg
	}
	for _, w := range c.Weights {
		if !isCost(w) {
			return api.ErrArg
		}
	}
	return api.OK
}

// Dist returns the weights of the features in which two sounds differ.
func Dist(a, b api.Sound, c api.Costs) (int64, api.Errno) {
	if !bothValid(a, b) {
		return 0, api.ErrSound
	}
	if e := CheckCosts(c); e != api.OK {
		return 0, e
	}
	// At most MaxFeats weights of at most MaxCost: the sum fits.
	var sum int64
	for f := range features(Diff(a, b)) {
		sum += weight(c, f)
	}
	return sum, api.OK
}

// Change takes values away, and sets others.
func Change(s api.Sound, clear uint32, set api.Sound) (api.Sound, api.Errno) {
	if !bothValid(s, set) {
		return api.Sound{}, api.ErrSound
	}
	if !within(clear) || clear&valued(set) != 0 {
		return api.Sound{}, api.ErrArg
	}
	return union(without(s, clear|valued(set)), set), api.OK
}

// Take gives a sound the values of another one in some features.
func Take(s, from api.Sound, mask uint32) (api.Sound, api.Errno) {
	if !bothValid(s, from) {
		return api.Sound{}, api.ErrSound
	}
	if !within(mask) {
		return api.Sound{}, api.ErrArg
	}
	return union(without(s, mask), without(from, ^mask)), api.OK
}

// Order compares sounds.
func Order(a, b api.Sound) int {
	return cmp.Or(cmp.Compare(a.Plus, b.Plus), cmp.Compare(a.Minus, b.Minus))
}

// features yields the features of a set in increasing order.
func features(set uint32) iter.Seq[int] {
	return func(yield func(int) bool) {
		for rest := set; rest != 0; rest &= rest - 1 {
			if !yield(bits.TrailingZeros32(rest)) {
				return
			}
		}
	}
}

func bothValid(a, b api.Sound) bool { return Valid(a) && Valid(b) }

func exists(f int) bool { return f >= 0 && f < api.MaxFeats }

func within(set uint32) bool { return set&^all == 0 }

func isCost(n int64) bool { return n >= 0 && n <= api.MaxCost }

// single returns the set of one feature, which exists.
func single(f int) uint32 { return 1 << f }

// valued returns the set of the features that have a value.
func valued(s api.Sound) uint32 { return s.Plus | s.Minus }

// without returns a sound in which the features of a set have no value.
func without(s api.Sound, set uint32) api.Sound {
	return api.Sound{Plus: s.Plus &^ set, Minus: s.Minus &^ set}
}

// union returns the values of both sounds, which may contradict each other.
func union(a, b api.Sound) api.Sound {
	return api.Sound{Plus: a.Plus | b.Plus, Minus: a.Minus | b.Minus}
}

// weight returns the weight of a feature; features behind the last weight have none.
func weight(c api.Costs, f int) int64 {
	if f >= len(c.Weights) {
		return 0
	}
	return c.Weights[f]
}
