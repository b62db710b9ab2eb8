package feats_test

import (
	"slices"
	"testing"

	"ablaut/api"
	"ablaut/feats"
)

// The features 0 (voice), 1 (stop), 2 (vowel).
var (
	p = api.Sound{Plus: 2, Minus: 5}
	b = api.Sound{Plus: 3, Minus: 4}
	a = api.Sound{Plus: 5, Minus: 2}

	both   = api.Sound{Plus: 3, Minus: 6}
	plus24 = api.Sound{Plus: 1 << 24}
	less24 = api.Sound{Minus: 1 << 24}
	plus31 = api.Sound{Plus: 1<<31 | 2, Minus: 5}
)

const (
	all     = uint32(1)<<24 - 1
	maxCost = int64(1) << 30
	minInt  = -1 << 63
	maxInt  = 1<<63 - 1
)

// invalid are the kinds of sounds that are not valid.
func invalid() []api.Sound {
	return []api.Sound{
		both, plus24, less24, plus31,
		{Plus: 1, Minus: 1},
		{Plus: 1 << 23, Minus: 1 << 23},
		{Plus: 2, Minus: 1<<31 | 5},
		{Plus: 1 << 24, Minus: 1 << 24},
		{Plus: 1<<32 - 1, Minus: 1<<32 - 1},
	}
}

// values is a sound as the document describes it: a value for each feature.
type values [24]int

func (v values) sound() api.Sound {
	var s api.Sound
	for f, x := range v {
		switch x {
		case 1:
			s.Plus |= 1 << f
		case -1:
			s.Minus |= 1 << f
		}
	}
	return s
}

// models are all sounds that have values in the features 0, 11 and 23 only, and some with many values.
func models() []values {
	var l []values
	for n := range 27 {
		var v values
		v[0], v[11], v[23] = n%3-1, n/3%3-1, n/9-1
		l = append(l, v)
	}
	var up, down, mixed, turned values
	for f := range 24 {
		up[f], down[f], mixed[f], turned[f] = 1, -1, f%3-1, (f+1)%3-1
	}
	return append(l, up, down, mixed, turned)
}

// sounds are the models as sounds.
func sounds() []api.Sound {
	var l []api.Sound
	for _, v := range models() {
		l = append(l, v.sound())
	}
	return l
}

func weights(n int, w int64) []int64 { return slices.Repeat([]int64{w}, n) }

// P1.1
func TestValid(t *testing.T) {
	for _, s := range append(sounds(), p, b, a, api.Sound{}, api.Sound{Plus: all}, api.Sound{Minus: all}, api.Sound{Plus: 1 << 23}, api.Sound{Minus: 1 << 23}) {
		if !feats.Valid(s) {
			t.Error("not valid", s)
		}
	}
	for _, s := range invalid() {
		if feats.Valid(s) {
			t.Error("valid", s)
		}
	}
	for f := range 32 {
		bit := uint32(1) << f
		if feats.Valid(api.Sound{Plus: bit}) != (f < 24) || feats.Valid(api.Sound{Minus: bit}) != (f < 24) || feats.Valid(api.Sound{Plus: bit, Minus: bit}) {
			t.Error("feature", f)
		}
	}
}

// P1.1
func TestGet(t *testing.T) {
	for _, v := range models() {
		for f := range 24 {
			if n := feats.Get(v.sound(), f); n != v[f] {
				t.Error(v.sound(), f, n)
			}
		}
	}
	for _, f := range []int{-1, -24, -64, minInt, 24, 25, 31, 32, 63, 64, 99, 1 << 32, maxInt} {
		for _, s := range append(sounds(), invalid()...) {
			if n := feats.Get(s, f); n != 0 {
				t.Error("no such feature", s, f, n)
			}
		}
	}
	for _, s := range invalid() {
		for f := range 24 {
			if n := feats.Get(s, f); n != 0 {
				t.Error("not valid", s, f, n)
			}
		}
	}
}

// P1.2
func TestWith(t *testing.T) {
	for _, v := range models() {
		for f := range 24 {
			for x := -1; x <= 1; x++ {
				want := v
				want[f] = x
				if s, e := feats.With(v.sound(), f, x); s != want.sound() || e != api.OK {
					t.Error(v.sound(), f, x, s, e)
				}
			}
		}
	}
	if s, e := feats.With(p, 0, 1); s != b || e != api.OK {
		t.Error("the document's example", s, e)
	}
}

// P1.2
func TestWithErrors(t *testing.T) {
	for k, x := range []struct {
		s    api.Sound
		f, v int
		e    api.Errno
	}{
		{p, 24, 1, api.ErrRange}, {p, -1, 1, api.ErrRange}, {p, 32, 0, api.ErrRange}, {p, 64, -1, api.ErrRange},
		{p, minInt, 1, api.ErrRange}, {p, maxInt, 1, api.ErrRange}, {p, 24, 2, api.ErrRange}, {p, -1, -2, api.ErrRange},
		{p, 0, 2, api.ErrArg}, {p, 0, -2, api.ErrArg}, {p, 23, 3, api.ErrArg}, {p, 3, minInt, api.ErrArg}, {p, 3, maxInt, api.ErrArg},
		{both, 0, 1, api.ErrSound}, {plus24, 24, 1, api.ErrSound}, {less24, -1, 1, api.ErrSound}, {plus31, 0, 2, api.ErrSound},
		{both, 0, 0, api.ErrSound}, {less24, 24, 2, api.ErrSound},
	} {
		if s, e := feats.With(x.s, x.f, x.v); s != (api.Sound{}) || e != x.e {
			t.Error(k, s, e)
		}
	}
}

// P1.3
func TestSatisfies(t *testing.T) {
	for _, v := range models() {
		for _, c := range models() {
			want := true
			for f := range 24 {
				want = want && (c[f] == 0 || c[f] == v[f])
			}
			if feats.Satisfies(v.sound(), c.sound()) != want {
				t.Error(v.sound(), c.sound(), !want)
			}
		}
	}
	for _, x := range invalid() {
		for _, s := range append(sounds(), p, x) {
			if feats.Satisfies(s, x) || feats.Satisfies(x, s) {
				t.Error("not valid", s, x)
			}
		}
	}
	voiced := api.Sound{Plus: 1, Minus: 4}
	if !feats.Satisfies(b, voiced) || feats.Satisfies(p, voiced) || !feats.Satisfies(a, api.Sound{}) || feats.Satisfies(api.Sound{}, a) {
		t.Error("the document's examples")
	}
}

// P1.3
func TestUnify(t *testing.T) {
	for _, v := range models() {
		for _, w := range models() {
			want, ok := v, true
			for f := range 24 {
				ok = ok && v[f]*w[f] != -1
				if want[f] == 0 {
					want[f] = w[f]
				}
			}
			if !ok {
				want = values{}
			}
			if s, good := feats.Unify(v.sound(), w.sound()); s != want.sound() || good != ok {
				t.Error(v.sound(), w.sound(), s, good)
			}
		}
	}
	for _, x := range invalid() {
		for _, s := range append(sounds(), p, x) {
			for _, two := range [][2]api.Sound{{s, x}, {x, s}} {
				if u, ok := feats.Unify(two[0], two[1]); u != (api.Sound{}) || ok {
					t.Error("not valid", two, u, ok)
				}
			}
		}
	}
	if u, ok := feats.Unify(api.Sound{Plus: 1}, api.Sound{Plus: 2}); u != (api.Sound{Plus: 3}) || !ok {
		t.Error("the document's example", u, ok)
	}
}

// P1.4
func TestMeetDiff(t *testing.T) {
	for _, v := range models() {
		for _, w := range models() {
			var meet values
			var diff uint32
			for f := range 24 {
				if v[f] == w[f] {
					meet[f] = v[f]
				} else {
					diff |= 1 << f
				}
			}
			if m := feats.Meet(v.sound(), w.sound()); m != meet.sound() {
				t.Error("Meet", v.sound(), w.sound(), m)
			}
			if d := feats.Diff(v.sound(), w.sound()); d != diff {
				t.Error("Diff", v.sound(), w.sound(), d)
			}
		}
	}
	for _, x := range invalid() {
		for _, s := range append(sounds(), p, x) {
			if feats.Meet(s, x) != (api.Sound{}) || feats.Meet(x, s) != (api.Sound{}) || feats.Diff(s, x) != 0 || feats.Diff(x, s) != 0 {
				t.Error("not valid", s, x)
			}
		}
	}
	if feats.Meet(p, b) != (api.Sound{Plus: 2, Minus: 4}) || feats.Diff(p, b) != 1 || feats.Diff(p, a) != 7 {
		t.Error("the document's examples")
	}
}

// badCosts are costs that are not valid.
func badCosts() []api.Costs {
	return []api.Costs{
		{Gap: -1}, {Gap: maxCost + 1}, {Gap: minInt}, {Gap: maxInt},
		{Weights: weights(25, 0)}, {Weights: weights(25, 1), Gap: 1}, {Weights: weights(64, 0)},
		{Weights: []int64{-1}}, {Weights: []int64{maxCost + 1}}, {Weights: []int64{minInt}}, {Weights: []int64{maxInt}},
		{Weights: []int64{0, -1, 0}}, {Weights: append(weights(23, 1), -1)}, {Weights: append(weights(23, 1), maxCost+1)},
	}
}

// P1.5
func TestCheckCosts(t *testing.T) {
	for k, c := range []api.Costs{
		{}, {Weights: []int64{}}, {Weights: []int64{0}}, {Weights: []int64{5, 2}, Gap: 1}, {Gap: maxCost}, {Weights: []int64{maxCost}},
		{Weights: weights(24, 0)}, {Weights: weights(24, maxCost), Gap: maxCost}, {Weights: []int64{3, -1, -1}[:1]}, {Weights: weights(25, 7)[:24]},
	} {
		if e := feats.CheckCosts(c); e != api.OK {
			t.Error(k, e)
		}
	}
	for k, c := range badCosts() {
		if e := feats.CheckCosts(c); e != api.ErrArg {
			t.Error(k, e)
		}
	}
}

// P1.5
func TestDist(t *testing.T) {
	growing := weights(24, 0)
	for f := range growing {
		growing[f] = 1 << f
	}
	for _, ws := range [][]int64{nil, {5, 2}, weights(11, 3), weights(12, 3), weights(23, maxCost), weights(24, maxCost), growing} {
		for _, v := range models() {
			for _, w := range models() {
				var want int64
				for f, x := range ws {
					if v[f] != w[f] {
						want += x
					}
				}
				if d, e := feats.Dist(v.sound(), w.sound(), api.Costs{Weights: ws, Gap: 9}); d != want || e != api.OK {
					t.Error(ws, v.sound(), w.sound(), d, e)
				}
			}
		}
	}
	if d, e := feats.Dist(p, a, api.Costs{Weights: []int64{5, 2}}); d != 7 || e != api.OK {
		t.Error("the document's example", d, e)
	}
	if d, e := feats.Dist(api.Sound{Plus: all}, api.Sound{Minus: all}, api.Costs{Weights: weights(24, maxCost)}); d != 24*maxCost || e != api.OK {
		t.Error("all features", d, e)
	}
}

// P1.5
func TestDistErrors(t *testing.T) {
	good := api.Costs{Weights: []int64{5, 2}}
	for _, x := range invalid() {
		for _, c := range append(badCosts(), good) {
			for _, two := range [][2]api.Sound{{p, x}, {x, p}, {x, x}} {
				if d, e := feats.Dist(two[0], two[1], c); d != 0 || e != api.ErrSound {
					t.Error(two, c, d, e)
				}
			}
		}
	}
	for _, c := range badCosts() {
		for _, s := range []api.Sound{p, a, {}} {
			if d, e := feats.Dist(p, s, c); d != 0 || e != api.ErrArg {
				t.Error(s, c, d, e)
			}
		}
	}
}

// R4
func TestWeightsStay(t *testing.T) {
	base := []int64{5, 2, 70, -1, maxCost + 1}
	c := api.Costs{Weights: base[:2], Gap: 3}
	if d, e := feats.Dist(p, a, c); d != 7 || e != api.OK {
		t.Error("weights beyond the length are read", d, e)
	}
	if !slices.Equal(base, []int64{5, 2, 70, -1, maxCost + 1}) {
		t.Error("weights are changed", base)
	}
	base[0] = 1
	if d, e := feats.Dist(p, a, c); d != 3 || e != api.OK {
		t.Error("weights of an earlier call are kept", d, e)
	}
}

// P1.6
func TestChange(t *testing.T) {
	for _, clear := range []uint32{0, 1, 1 << 11, 1 << 23, 1 | 1<<23, 1 << 5, 6, all} {
		for _, v := range models() {
			for _, set := range models() {
				want, bad := v, false
				for f := range 24 {
					gone := clear>>f&1 == 1
					bad = bad || gone && set[f] != 0
					if gone {
						want[f] = 0
					}
					if set[f] != 0 {
						want[f] = set[f]
					}
				}
				e := api.OK
				if bad {
					want, e = values{}, api.ErrArg
				}
				if s, err := feats.Change(v.sound(), clear, set.sound()); s != want.sound() || err != e {
					t.Error(v.sound(), clear, set.sound(), s, err)
				}
			}
		}
	}
	if s, e := feats.Change(p, 2, api.Sound{Plus: 1}); s != (api.Sound{Plus: 1, Minus: 4}) || e != api.OK {
		t.Error("the document's example", s, e)
	}
}

// P1.6
func TestChangeErrors(t *testing.T) {
	for k, x := range []struct {
		s     api.Sound
		clear uint32
		set   api.Sound
		e     api.Errno
	}{
		{p, 1, api.Sound{Plus: 1}, api.ErrArg}, {p, 1, api.Sound{Minus: 1}, api.ErrArg}, {p, 1 << 23, api.Sound{Plus: 1 << 23}, api.ErrArg},
		{p, 7, api.Sound{Plus: 8, Minus: 4}, api.ErrArg}, {api.Sound{}, all, api.Sound{Minus: 1 << 23}, api.ErrArg},
		{p, 1 << 24, api.Sound{}, api.ErrArg}, {p, 1 << 31, api.Sound{}, api.ErrArg}, {p, 1<<24 | 1, api.Sound{Plus: 2}, api.ErrArg}, {p, 1<<32 - 1, api.Sound{}, api.ErrArg},
	} {
		if s, e := feats.Change(x.s, x.clear, x.set); s != (api.Sound{}) || e != x.e {
			t.Error(k, s, e)
		}
	}
	for _, x := range invalid() {
		for _, clear := range []uint32{0, 1, 1 << 24, 1<<32 - 1} {
			for _, two := range [][2]api.Sound{{p, x}, {x, {}}, {x, {Plus: 1}}, {{}, x}, {x, x}} {
				if s, e := feats.Change(two[0], clear, two[1]); s != (api.Sound{}) || e != api.ErrSound {
					t.Error(two, clear, s, e)
				}
			}
		}
	}
}

// P1.7
func TestTake(t *testing.T) {
	for _, mask := range []uint32{0, 1, 1 << 11, 1 << 23, 1 | 1<<23, 6, all &^ 1, all} {
		for _, v := range models() {
			for _, from := range models() {
				want := v
				for f := range 24 {
					if mask>>f&1 == 1 {
						want[f] = from[f]
					}
				}
				if s, e := feats.Take(v.sound(), from.sound(), mask); s != want.sound() || e != api.OK {
					t.Error(v.sound(), from.sound(), mask, s, e)
				}
			}
		}
	}
	if s, e := feats.Take(p, a, 6); s != (api.Sound{Plus: 4, Minus: 3}) || e != api.OK {
		t.Error("the document's example", s, e)
	}
}

// P1.7
func TestTakeErrors(t *testing.T) {
	for _, mask := range []uint32{1 << 24, 1 << 31, 1<<24 | 1, 1<<32 - 1} {
		for _, from := range []api.Sound{a, p, {}} {
			if s, e := feats.Take(p, from, mask); s != (api.Sound{}) || e != api.ErrArg {
				t.Error(from, mask, s, e)
			}
		}
	}
	for _, x := range invalid() {
		for _, mask := range []uint32{0, 1, all, 1 << 24, 1<<32 - 1} {
			for _, two := range [][2]api.Sound{{p, x}, {x, p}, {x, x}} {
				if s, e := feats.Take(two[0], two[1], mask); s != (api.Sound{}) || e != api.ErrSound {
					t.Error(two, mask, s, e)
				}
			}
		}
	}
}

// P1.8
func TestOrder(t *testing.T) {
	rising := []api.Sound{
		{}, {Minus: 1}, {Minus: 2}, {Minus: 1 << 24}, {Minus: 1 << 31}, {Minus: 1<<32 - 1},
		{Plus: 1}, {Plus: 1, Minus: 1}, {Plus: 2, Minus: 4}, p, b, a, {Plus: 5, Minus: 1 << 31}, {Plus: all}, plus24,
		{Plus: 1 << 31}, {Plus: 1<<32 - 1}, {Plus: 1<<32 - 1, Minus: 1<<32 - 1},
	}
	for i, x := range rising {
		for k, y := range rising {
			want := 0
			switch {
			case i < k:
				want = -1
			case i > k:
				want = 1
			}
			if n := feats.Order(x, y); n != want {
				t.Error(x, y, n)
			}
		}
	}
}

// P1.9
func TestMeetProperties(t *testing.T) {
	l := sounds()
	for _, x := range l {
		if feats.Meet(x, x) != x {
			t.Error("with itself", x)
		}
		for _, y := range l {
			meet := feats.Meet(x, y)
			if feats.Meet(y, x) != meet {
				t.Error("not commutative", x, y)
			}
			if feats.Satisfies(x, y) != (meet == y) {
				t.Error("Satisfies and Meet", x, y)
			}
			for _, z := range l {
				if feats.Meet(meet, z) != feats.Meet(x, feats.Meet(y, z)) {
					t.Error("not associative", x, y, z)
				}
			}
		}
	}
}

// P1.9
func TestUnifyProperties(t *testing.T) {
	l := sounds()
	for _, x := range l {
		for _, y := range l {
			u, ok := feats.Unify(x, y)
			if ok && (!feats.Satisfies(u, x) || !feats.Satisfies(u, y)) {
				t.Error("does not satisfy both", x, y, u)
			}
			for _, z := range l {
				if feats.Satisfies(z, x) && feats.Satisfies(z, y) && (!ok || !feats.Satisfies(z, u)) {
					t.Error("not the least", x, y, z, u, ok)
				}
			}
		}
	}
}

// P1.10
func TestDistProperties(t *testing.T) {
	l := sounds()
	for _, ws := range [][]int64{nil, {4}, {0, 1, 2, 3, 4, 5, 6, 7, 8, 9, 10, 11, 12}, weights(24, maxCost)} {
		c := api.Costs{Weights: ws, Gap: maxCost}
		dist := func(x, y api.Sound) int64 {
			d, e := feats.Dist(x, y, c)
			if e != api.OK {
				t.Error(x, y, e)
			}
			return d
		}
		for _, x := range l {
			if d := dist(x, x); d != 0 {
				t.Error("to itself", x, d)
			}
			for _, y := range l {
				direct := dist(x, y)
				if direct != dist(y, x) {
					t.Error("not symmetric", x, y)
				}
				for _, z := range l {
					if direct > dist(x, z)+dist(z, y) {
						t.Error("a detour is shorter", x, y, z)
					}
				}
			}
		}
	}
}

// P1.11
func TestChangeProperties(t *testing.T) {
	l := sounds()
	for _, clear := range []uint32{0, 1, 1 << 11, 1 << 23, 6} {
		for _, x := range l {
			for _, set := range l {
				once, e := feats.Change(x, clear, set)
				if e != api.OK {
					continue
				}
				if twice, e := feats.Change(once, clear, set); twice != once || e != api.OK {
					t.Error("twice", x, clear, set, twice, e)
				}
				if !feats.Satisfies(once, set) {
					t.Error("does not satisfy what was set", x, clear, set, once)
				}
			}
		}
	}
}

// P1.11
func TestTakeProperties(t *testing.T) {
	for _, x := range sounds() {
		for _, mask := range []uint32{0, 1, 1 << 23, 6, all} {
			if s, e := feats.Take(x, x, mask); s != x || e != api.OK {
				t.Error("from itself", x, mask, s, e)
			}
		}
		for _, y := range sounds() {
			if s, e := feats.Take(x, y, all); s != y || e != api.OK {
				t.Error("all features", x, y, s, e)
			}
		}
	}
}

// P1.11
func TestWithProperties(t *testing.T) {
	for _, x := range sounds() {
		for f := range 24 {
			for v := -1; v <= 1; v++ {
				s, e := feats.With(x, f, v)
				if e != api.OK || feats.Get(s, f) != v {
					t.Error(x, f, v, s, e)
				}
				for g := range 24 {
					if g != f && feats.Get(s, g) != feats.Get(x, g) {
						t.Error("another feature", x, f, v, g)
					}
				}
			}
		}
	}
}
