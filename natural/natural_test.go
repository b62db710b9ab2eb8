package natural_test

import (
	"math/bits"
	"math/rand"
	"slices"
	"strconv"
	"testing"

	"ablaut/api"
	"ablaut/feats"
	"ablaut/natural"
)

// The features 0 (voice), 1 (stop), 2 (vowel).
var (
	p = api.Sound{Plus: 2, Minus: 5}
	b = api.Sound{Plus: 3, Minus: 4}
	a = api.Sound{Plus: 5, Minus: 2}

	example = []api.Sound{p, b, a}
	zero    = api.Sound{}
)

// invalid are the kinds of sounds that are not valid.
func invalid() []api.Sound {
	return []api.Sound{
		{Plus: 1, Minus: 1}, {Plus: 3, Minus: 6}, {Plus: 1 << 23, Minus: 1 << 23},
		{Plus: 1 << 24}, {Minus: 1 << 24}, {Plus: 2, Minus: 1<<31 | 5}, {Plus: 1<<31 | 2, Minus: 5},
		{Plus: 1 << 24, Minus: 1 << 24}, {Plus: 1<<32 - 1, Minus: 1<<32 - 1},
	}
}

// every is every sound that has values in these features only.
func every(fs ...int) []api.Sound {
	l := []api.Sound{{}}
	for _, f := range fs {
		for _, s := range slices.Clone(l) {
			l = append(l, give(s, f, 1), give(s, f, -1))
		}
	}
	return l
}

// cube is every sound that has a value in each of the first k features, and in no other one.
func cube(k int) []api.Sound {
	var l []api.Sound
	for n := range 1 << k {
		l = append(l, api.Sound{Plus: uint32(n), Minus: uint32(1<<k - 1 - n)})
	}
	return l
}

// give returns a sound with another value of a feature.
func give(s api.Sound, f, v int) api.Sound {
	s.Plus &^= 1 << f
	s.Minus &^= 1 << f
	switch v {
	case 1:
		s.Plus |= 1 << f
	case -1:
		s.Minus |= 1 << f
	}
	return s
}

func value(s api.Sound, f int) int { return int(s.Plus>>f&1) - int(s.Minus>>f&1) }

// flip returns a sound with the opposite values of some features.
func flip(s api.Sound, fs ...int) api.Sound {
	for _, f := range fs {
		s = give(s, f, -value(s, f))
	}
	return s
}

func without(all []api.Sound, i int) []api.Sound { return slices.Delete(slices.Clone(all), i, i+1) }

func mixed(r *rand.Rand, l []api.Sound) []api.Sound {
	m := slices.Clone(l)
	r.Shuffle(len(m), func(i, j int) { m[i], m[j] = m[j], m[i] })
	return m
}

func chosen(all []api.Sound, choice int) []api.Sound {
	var l []api.Sound
	for i, s := range all {
		if choice>>i&1 == 1 {
			l = append(l, s)
		}
	}
	return l
}

// The model: each function as the document describes it, value by value.

func modelMembers(all []api.Sound, cond api.Sound) []int {
	var l []int
	for i, s := range all {
		ok := true
		for f := range 24 {
			ok = ok && (value(cond, f) == 0 || value(cond, f) == value(s, f))
		}
		if ok {
			l = append(l, i)
		}
	}
	return l
}

func modelCommon(some []api.Sound) api.Sound {
	var cond api.Sound
	for f := range 24 {
		same := true
		for _, s := range some {
			same = same && value(s, f) == value(some[0], f)
		}
		if same {
			cond = give(cond, f, value(some[0], f))
		}
	}
	return cond
}

func modelIs(all, some []api.Sound) bool {
	for _, i := range modelMembers(all, modelCommon(some)) {
		if !slices.Contains(some, all[i]) {
			return false
		}
	}
	return true
}

// modelShortest tries all conditions with some of the common values.
func modelShortest(all, some []api.Sound) (api.Sound, bool) {
	if !modelIs(all, some) {
		return zero, false
	}
	common := modelCommon(some)
	inside := modelMembers(all, common)
	features := func(s api.Sound) []int {
		var l []int
		for f := range 24 {
			if value(s, f) != 0 {
				l = append(l, f)
			}
		}
		return l
	}
	best := common
	for choice := range 1 << len(features(common)) {
		cond := common
		for k, f := range features(common) {
			if choice>>k&1 == 0 {
				cond = give(cond, f, 0)
			}
		}
		if !slices.Equal(modelMembers(all, cond), inside) {
			continue
		}
		l, m := features(cond), features(best)
		if len(l) < len(m) || len(l) == len(m) && slices.Compare(l, m) < 0 {
			best = cond
		}
	}
	return best, true
}

func differAlone(x, y api.Sound, f int) bool {
	return value(x, f) != value(y, f) && give(x, f, 0) == give(y, f, 0)
}

func modelPairs(all []api.Sound) ([][2]int, uint32) {
	var l [][2]int
	var needed uint32
	for i := range all {
		for j := range all {
			for f := range 24 {
				if i < j && differAlone(all[i], all[j], f) {
					l = append(l, [2]int{i, j})
					needed |= 1 << f
				}
			}
		}
	}
	return l, needed
}

func modelGaps(all []api.Sound) []api.Sound {
	var l []api.Sound
	for _, x := range all {
		for _, y := range all {
			for f := range 24 {
				if !differAlone(x, y, f) {
					continue
				}
				for _, z := range all {
					gap := give(z, f, value(y, f))
					if value(z, f) == value(x, f) && !slices.Contains(all, gap) && !slices.Contains(l, gap) {
						l = append(l, gap)
					}
				}
			}
		}
	}
	slices.SortFunc(l, func(s, t api.Sound) int {
		return slices.Compare([]uint32{s.Plus, s.Minus}, []uint32{t.Plus, t.Minus})
	})
	return l
}

func modelCount(all []api.Sound) int {
	found := map[string]bool{}
	for choice := 1; choice < 1<<len(all); choice++ {
		text := ""
		for _, i := range modelMembers(all, modelCommon(chosen(all, choice))) {
			text += strconv.Itoa(i) + " "
		}
		found[text] = true
	}
	return len(found)
}

// checkSome compares what is asked of an inventory and some of its sounds with the model.
func checkSome(t *testing.T, all, some []api.Sound) {
	t.Helper()
	common := modelCommon(some)
	if cond, inside, e := natural.Closure(all, some); cond != common || !slices.Equal(inside, modelMembers(all, common)) || e != api.OK {
		t.Fatal("Closure", all, some, cond, inside, e)
	}
	if ok, e := natural.Is(all, some); ok != modelIs(all, some) || e != api.OK {
		t.Fatal("Is", all, some, ok, e)
	}
	want, found := modelShortest(all, some)
	if cond, ok, e := natural.Shortest(all, some); cond != want || ok != found || e != api.OK {
		t.Fatal("Shortest", all, some, cond, ok, e, want, found)
	}
}

// checkAll compares what is asked of an inventory alone with the model; Count only if it may be asked.
func checkAll(t *testing.T, all []api.Sound) {
	t.Helper()
	pairs, needed := modelPairs(all)
	if l, e := natural.Pairs(all); !slices.Equal(l, pairs) || e != api.OK {
		t.Fatal("Pairs", all, l, e, pairs)
	}
	if n, e := natural.Needed(all); n != needed || e != api.OK {
		t.Fatal("Needed", all, n, e, needed)
	}
	if l, e := natural.Gaps(all); !slices.Equal(l, modelGaps(all)) || e != api.OK {
		t.Fatal("Gaps", all, l, e, modelGaps(all))
	}
	if len(all) > 12 {
		return
	}
	if n, e := natural.Count(all); n != modelCount(all) || e != api.OK {
		t.Fatal("Count", all, n, e, modelCount(all))
	}
}

// inventories are random ones of sounds with values in a few features, near the limits and in between.
func inventories(r *rand.Rand, n, most int) [][]api.Sound {
	var l [][]api.Sound
	for _, sounds := range [][]api.Sound{every(0, 1), every(0, 11, 23), every(22, 23), every(3, 4, 8, 16), every(0, 1, 2, 20, 23), cube(5)} {
		for range n {
			l = append(l, mixed(r, sounds)[:r.Intn(min(most, len(sounds))+1)])
		}
	}
	return l
}

// P5.1, P5.2, P5.4, P5.5, P5.6: all inventories of sounds with two features, and all choices of their sounds.
func TestSmallInventories(t *testing.T) {
	sounds := every(0, 23)
	for choice := range 1 << len(sounds) {
		all := chosen(sounds, choice)
		checkAll(t, all)
		for part := 1; part < 1<<len(all); part++ {
			checkSome(t, all, chosen(all, part))
		}
	}
}

// P5.1, P5.2, P5.4, P5.5, P5.6
func TestRandomInventories(t *testing.T) {
	r := rand.New(rand.NewSource(5))
	for _, all := range inventories(r, 60, 9) {
		checkAll(t, all)
		for range min(20, 20*len(all)) {
			checkSome(t, all, mixed(r, all)[:1+r.Intn(len(all))])
		}
		for _, i := range r.Perm(len(all)) {
			checkSome(t, all, all[i:i+1])
		}
	}
	for _, all := range inventories(r, 6, 60) {
		checkAll(t, all)
		// Classes that were made by a condition have a shortest condition, as most others have none.
		for _, cond := range mixed(r, every(0, 1, 8, 23))[:20] {
			var some []api.Sound
			for _, i := range modelMembers(all, cond) {
				some = append(some, all[i])
			}
			if len(some) > 0 {
				checkSome(t, all, some)
			}
		}
	}
}

// P5.1
func TestClosure(t *testing.T) {
	for k, x := range []struct {
		some []api.Sound
		cond api.Sound
		want []int
		is   bool
	}{
		{[]api.Sound{p, b}, api.Sound{Plus: 2, Minus: 4}, []int{0, 1}, true},
		{[]api.Sound{b, a}, api.Sound{Plus: 1}, []int{1, 2}, true},
		{[]api.Sound{p, a}, zero, []int{0, 1, 2}, false},
		{[]api.Sound{p}, p, []int{0}, true},
		{[]api.Sound{a}, a, []int{2}, true},
		{example, zero, []int{0, 1, 2}, true},
		{[]api.Sound{a, p, b}, zero, []int{0, 1, 2}, true},
		{[]api.Sound{b, p}, api.Sound{Plus: 2, Minus: 4}, []int{0, 1}, true},
		{[]api.Sound{a, a, p, a}, zero, []int{0, 1, 2}, false},
		{[]api.Sound{b, p, b, b, p}, api.Sound{Plus: 2, Minus: 4}, []int{0, 1}, true},
		{slices.Repeat([]api.Sound{a, b}, 300), api.Sound{Plus: 1}, []int{1, 2}, true},
		{slices.Repeat([]api.Sound{b}, 257), b, []int{1}, true},
	} {
		if cond, inside, e := natural.Closure(example, x.some); cond != x.cond || !slices.Equal(inside, x.want) || e != api.OK {
			t.Error(k, cond, inside, e)
		}
		if ok, e := natural.Is(example, x.some); ok != x.is || e != api.OK {
			t.Error(k, ok, e)
		}
	}
	one := []api.Sound{zero}
	if cond, inside, e := natural.Closure(one, one); cond != zero || !slices.Equal(inside, []int{0}) || e != api.OK {
		t.Error("the zero sound alone", cond, inside, e)
	}
	if ok, e := natural.Is([]api.Sound{p, zero}, one); ok || e != api.OK {
		t.Error("all sounds satisfy what the zero sound has", ok, e)
	}
}

// P5.1: how often a sound is in some, and in which order, does not matter.
func TestClosureOrder(t *testing.T) {
	r := rand.New(rand.NewSource(51))
	for _, all := range inventories(r, 10, 12) {
		if len(all) == 0 {
			continue
		}
		some := mixed(r, all)[:1+r.Intn(len(all))]
		more := mixed(r, slices.Concat(some, some[:r.Intn(len(some))], slices.Repeat(some[:1], r.Intn(4))))
		cond, inside, e := natural.Closure(all, some)
		if c, l, f := natural.Closure(all, more); c != cond || !slices.Equal(l, inside) || f != e {
			t.Error("Closure", all, more, c, l, f)
		}
		ok, e := natural.Is(all, some)
		if is, f := natural.Is(all, more); is != ok || f != e {
			t.Error("Is", all, more, is, f)
		}
		cond, ok, e = natural.Shortest(all, some)
		if c, is, f := natural.Shortest(all, more); c != cond || is != ok || f != e {
			t.Error("Shortest", all, more, c, is, f)
		}
	}
}

// noSounds are lists that are not some of the sounds of the example.
func noSounds() [][]api.Sound {
	l := [][]api.Sound{nil, {}, {zero}, {{Plus: 2, Minus: 4}}, {p, b, {Plus: 1}}, {{Plus: 1}, p}, {p, b, a, {Plus: 5, Minus: 10}}, make([]api.Sound, 1000)}
	for _, s := range invalid() {
		l = append(l, []api.Sound{s}, []api.Sound{p, s}, []api.Sound{s, a})
	}
	return l
}

// P5.1, P5.2
func TestNoSounds(t *testing.T) {
	for _, some := range noSounds() {
		for _, all := range [][]api.Sound{example, nil, {}, {p, a}} {
			checkSomeError(t, all, some, api.ErrNone)
		}
	}
	checkSomeError(t, nil, []api.Sound{p}, api.ErrNone)
	checkSomeError(t, []api.Sound{p, a}, []api.Sound{p, b}, api.ErrNone)
}

// checkSomeError checks the error of the functions that are asked for some sounds, and the zero values beside it.
func checkSomeError(t *testing.T, all, some []api.Sound, want api.Errno) {
	t.Helper()
	if cond, inside, e := natural.Closure(all, some); cond != zero || len(inside) > 0 || e != want {
		t.Error("Closure", all, some, cond, inside, e)
	}
	if ok, e := natural.Is(all, some); ok || e != want {
		t.Error("Is", all, some, ok, e)
	}
	if cond, ok, e := natural.Shortest(all, some); cond != zero || ok || e != want {
		t.Error("Shortest", all, some, cond, ok, e)
	}
}

// checkAllError checks the error of the functions that are asked for an inventory, and the zero values beside it.
func checkAllError(t *testing.T, all []api.Sound, want api.Errno) {
	t.Helper()
	for _, some := range append(noSounds(), []api.Sound{p}, example, all) {
		checkSomeError(t, all, some, want)
	}
	for _, cond := range append(invalid(), p, zero) {
		if l, e := natural.Select(all, cond); len(l) > 0 || e != want {
			t.Error("Select", all, cond, l, e)
		}
	}
	if l, e := natural.Pairs(all); len(l) > 0 || e != want {
		t.Error("Pairs", all, l, e)
	}
	if n, e := natural.Needed(all); n != 0 || e != want {
		t.Error("Needed", all, n, e)
	}
	if l, e := natural.Gaps(all); len(l) > 0 || e != want {
		t.Error("Gaps", all, l, e)
	}
}

// P5.1, P5.2, P5.3, P5.4, P5.5, P5.6
func TestInventoryErrors(t *testing.T) {
	sounds := every(0, 1, 2, 3, 4, 5)
	last := append(slices.Clone(sounds[:255]), sounds[0])
	for _, x := range []struct {
		all       []api.Sound
		want, two api.Errno // two is the error of Count
	}{
		{sounds[:257], api.ErrMany, api.ErrMany},
		{append([]api.Sound{{Plus: 1, Minus: 1}}, sounds[:256]...), api.ErrMany, api.ErrMany},
		{slices.Repeat(invalid()[:1], 257), api.ErrMany, api.ErrMany},
		{slices.Repeat([]api.Sound{p}, 257), api.ErrMany, api.ErrMany},
		{slices.Repeat([]api.Sound{p}, 256), api.ErrHave, api.ErrMany},
		{last, api.ErrHave, api.ErrMany},
		{append(slices.Clone(sounds[:255]), api.Sound{Plus: 1 << 24}), api.ErrSound, api.ErrMany},
		{append([]api.Sound{{Minus: 1 << 24}}, sounds[:12]...), api.ErrSound, api.ErrMany},
		{append(slices.Clone(sounds[:12]), sounds[0]), api.ErrHave, api.ErrMany},
		{append(slices.Clone(sounds[:11]), sounds[0]), api.ErrHave, api.ErrHave},
		{append(slices.Clone(sounds[:11]), api.Sound{Plus: 1 << 24}), api.ErrSound, api.ErrSound},
		{[]api.Sound{p, p}, api.ErrHave, api.ErrHave},
		{[]api.Sound{p, b, a, p}, api.ErrHave, api.ErrHave},
		{[]api.Sound{b, p, p, a}, api.ErrHave, api.ErrHave},
		{[]api.Sound{zero, zero}, api.ErrHave, api.ErrHave},
		{[]api.Sound{p, p, {Plus: 3, Minus: 2}}, api.ErrSound, api.ErrSound},
		{[]api.Sound{{Plus: 3, Minus: 2}, p, p}, api.ErrSound, api.ErrSound},
	} {
		checkAllError(t, x.all, x.want)
		if n, e := natural.Count(x.all); n != 0 || e != x.two {
			t.Error("Count", x.all, n, e)
		}
	}
	for _, s := range invalid() {
		for _, all := range [][]api.Sound{{s}, {s, s}, {p, s}, {s, b, a}, {p, b, b, s}} {
			checkAllError(t, all, api.ErrSound)
			if n, e := natural.Count(all); n != 0 || e != api.ErrSound {
				t.Error("Count", all, n, e)
			}
		}
	}
}

// P5.1, P5.3, P5.4, P5.5, P5.6
func TestEmptyInventory(t *testing.T) {
	for _, all := range [][]api.Sound{nil, {}} {
		checkAll(t, all)
		for _, some := range [][]api.Sound{nil, {}, {p}, {zero}} {
			checkSomeError(t, all, some, api.ErrNone)
		}
		for _, cond := range []api.Sound{zero, p, {Plus: 1 << 23}} {
			if l, e := natural.Select(all, cond); len(l) > 0 || e != api.OK {
				t.Error("Select", cond, l, e)
			}
		}
		if l, e := natural.Select(all, api.Sound{Plus: 1 << 24}); len(l) > 0 || e != api.ErrSound {
			t.Error("Select", l, e)
		}
		if n, e := natural.Count(all); n != 0 || e != api.OK {
			t.Error("Count", n, e)
		}
	}
}

// P5.1, P5.2, P5.3, P5.4, P5.6
func TestFullInventory(t *testing.T) {
	for _, all := range [][]api.Sound{every(0, 1, 2, 3, 4, 23)[:256], cube(8), mixed(rand.New(rand.NewSource(256)), every(2, 3, 5, 7, 11, 13))[:256]} {
		checkAll(t, all)
		checkSome(t, all, all)
		checkSome(t, all, all[:1])
		checkSome(t, all, all[255:])
		checkSome(t, all, []api.Sound{all[255], all[0], all[64], all[63]})
		for _, cond := range []api.Sound{zero, {Plus: 4}, {Plus: 8, Minus: 4}} {
			var some []api.Sound
			for _, i := range modelMembers(all, cond) {
				some = append(some, all[i])
			}
			checkSome(t, all, some)
			if l, e := natural.Select(all, cond); !slices.Equal(l, modelMembers(all, cond)) || e != api.OK {
				t.Error("Select", cond, l, e)
			}
		}
		if n, e := natural.Count(all); n != 0 || e != api.ErrMany {
			t.Error("Count", n, e)
		}
	}
}

// P5.2
func TestShortest(t *testing.T) {
	base := api.Sound{Plus: 15}
	for k, x := range []struct {
		all, some []api.Sound
		want      api.Sound
		ok        bool
	}{
		{example, []api.Sound{p, b}, api.Sound{Plus: 2}, true},
		{example, []api.Sound{b}, api.Sound{Plus: 3}, true},
		{example, []api.Sound{p}, api.Sound{Minus: 1}, true},
		{example, []api.Sound{a}, api.Sound{Minus: 2}, true},
		{example, example, zero, true},
		{example, []api.Sound{p, a}, zero, false},
		// The zero sound selects the only sound of an inventory.
		{[]api.Sound{a}, []api.Sound{a}, zero, true},
		{[]api.Sound{zero}, []api.Sound{zero}, zero, true},
		{[]api.Sound{p, zero}, []api.Sound{zero}, zero, false},
		{[]api.Sound{p, zero}, []api.Sound{p}, api.Sound{Minus: 1}, true},
		// With two values it must be +0 +3 or +1 +2, of which 0 comes first; +1 +2 would be the smaller number.
		{[]api.Sound{base, flip(base, 0, 1), flip(base, 0, 2), flip(base, 1, 3), flip(base, 2, 3)}, []api.Sound{base}, api.Sound{Plus: 9}, true},
		// The last feature alone is shorter than the first two.
		{[]api.Sound{{Plus: 1<<23 | 3}, {Plus: 1, Minus: 1<<23 | 2}, {Plus: 2, Minus: 1<<23 | 1}}, []api.Sound{{Plus: 1<<23 | 3}}, api.Sound{Plus: 1 << 23}, true},
		// Feature 0 keeps out the most, but features 1 and 2 keep out all.
		{[]api.Sound{base, flip(base, 0, 1), give(flip(base, 0, 1), 3, 0), flip(base, 0, 2), give(flip(base, 0, 2), 3, 0), flip(base, 1), flip(base, 2)}, []api.Sound{base}, api.Sound{Plus: 6}, true},
		// A sound without a value does not have it.
		{[]api.Sound{{Plus: 1}, {Plus: 3}}, []api.Sound{{Plus: 3}}, api.Sound{Plus: 2}, true},
		{[]api.Sound{{Plus: 1}, {Plus: 3}}, []api.Sound{{Plus: 1}}, zero, false},
	} {
		if cond, ok, e := natural.Shortest(x.all, x.some); cond != x.want || ok != x.ok || e != api.OK {
			t.Error(k, cond, ok, e)
		}
		checkSome(t, x.all, x.some)
	}
}

// P5.2: the longest searches come to an end, with what is known of their results.
func TestShortestLong(t *testing.T) {
	base := api.Sound{Plus: 0x555555, Minus: 0xaaaaaa}
	first := func(n int) api.Sound { return api.Sound{Plus: base.Plus & (1<<n - 1), Minus: base.Minus & (1<<n - 1)} }
	alone, pairs, threes, star := []api.Sound{base}, []api.Sound{base}, []api.Sound{base}, []api.Sound{base}
	for f := range 24 {
		alone = append(alone, flip(base, f))
	}
	for f := range 12 {
		pairs = append(pairs, flip(base, f, f+12))
	}
	for f := range 8 {
		threes = append(threes, flip(base, f, f+8, f+16))
	}
	for f := range 23 {
		for g := range f {
			if len(star) < 256 {
				star = append(star, flip(base, g, f))
			}
		}
	}
	for k, x := range []struct {
		all  []api.Sound
		want api.Sound
	}{{alone, base}, {pairs, first(12)}, {threes, first(8)}, {star, first(22)}} {
		if cond, ok, e := natural.Shortest(x.all, []api.Sound{base}); cond != x.want || !ok || e != api.OK {
			t.Error(k, cond, ok, e)
		}
	}
}

// P5.3
func TestSelect(t *testing.T) {
	for k, x := range []struct {
		cond api.Sound
		want []int
	}{
		{api.Sound{Plus: 1}, []int{1, 2}},
		{zero, []int{0, 1, 2}},
		{p, []int{0}},
		{a, []int{2}},
		{api.Sound{Minus: 4}, []int{0, 1}},
		{api.Sound{Plus: 6}, nil},
		{api.Sound{Plus: 8}, nil},
		{api.Sound{Minus: 1 << 23}, nil},
		{api.Sound{Plus: 5, Minus: 10}, nil},
	} {
		if l, e := natural.Select(example, x.cond); !slices.Equal(l, x.want) || e != api.OK {
			t.Error(k, l, e)
		}
	}
	for _, cond := range invalid() {
		if l, e := natural.Select(example, cond); len(l) > 0 || e != api.ErrSound {
			t.Error(cond, l, e)
		}
	}
	sounds := every(0, 11, 23)
	for _, cond := range append(sounds, every(1, 22)...) {
		if l, e := natural.Select(sounds, cond); !slices.Equal(l, modelMembers(sounds, cond)) || e != api.OK {
			t.Error(cond, l, e)
		}
	}
}

// P5.4
func TestPairs(t *testing.T) {
	s := api.Sound{Plus: 8}
	for k, x := range []struct {
		all    []api.Sound
		want   [][2]int
		needed uint32
	}{
		{example, [][2]int{{0, 1}}, 1},
		{[]api.Sound{a, b, p}, [][2]int{{1, 2}}, 1},
		{[]api.Sound{p}, nil, 0},
		{[]api.Sound{p, a}, nil, 0},
		// None is a value like any other one.
		{[]api.Sound{s, {Plus: 9}, {Plus: 8, Minus: 1}}, [][2]int{{0, 1}, {0, 2}, {1, 2}}, 1},
		{[]api.Sound{zero, {Minus: 1 << 23}}, [][2]int{{0, 1}}, 1 << 23},
		{[]api.Sound{zero, {Plus: 1, Minus: 2}}, nil, 0},
		{[]api.Sound{{Plus: 1}, {Plus: 2}}, nil, 0},
		{cube(2), [][2]int{{0, 1}, {0, 2}, {1, 3}, {2, 3}}, 3},
		{[]api.Sound{{Plus: 3}, {Plus: 2, Minus: 1}, {Plus: 1, Minus: 2}, {Minus: 3}}, [][2]int{{0, 1}, {0, 2}, {1, 3}, {2, 3}}, 3},
	} {
		if l, e := natural.Pairs(x.all); !slices.Equal(l, x.want) || e != api.OK {
			t.Error(k, l, e)
		}
		if n, e := natural.Needed(x.all); n != x.needed || e != api.OK {
			t.Error(k, n, e)
		}
	}
}

// P5.5
func TestCount(t *testing.T) {
	for k, x := range []struct {
		all  []api.Sound
		want int
	}{
		{example, 6},
		{[]api.Sound{p}, 1},
		{[]api.Sound{zero}, 1},
		{[]api.Sound{p, zero}, 2},
		{[]api.Sound{p, b}, 3},
		{[]api.Sound{{Plus: 1}, {Plus: 2}, {Plus: 4}}, 4},
	} {
		if n, e := natural.Count(x.all); n != x.want || e != api.OK {
			t.Error(k, n, e)
		}
	}
	sounds := every(0, 11, 23)
	for n := range 13 {
		checkAll(t, sounds[:n])
		checkAll(t, sounds[27-n:])
	}
	var alone []api.Sound
	for f := range 13 {
		all := api.Sound{Plus: 1<<12 - 1}
		alone = append(alone, flip(all, f))
	}
	if n, e := natural.Count(alone[:12]); n != 1<<12-1 || e != api.OK {
		t.Error("each choice of twelve sounds is a closure", n, e)
	}
	if n, e := natural.Count(alone); n != 0 || e != api.ErrMany {
		t.Error("thirteen sounds", n, e)
	}
}

// P5.6
func TestGaps(t *testing.T) {
	for k, x := range []struct {
		all, want []api.Sound
	}{
		{example, []api.Sound{{Plus: 4, Minus: 3}}},
		{[]api.Sound{p, a}, nil},
		{[]api.Sound{p}, nil},
		{[]api.Sound{p, b}, nil},
		// The pair shows that + may be exchanged for none, and none for +.
		{[]api.Sound{{Plus: 1}, zero, {Plus: 2}}, []api.Sound{{Plus: 3}}},
		{[]api.Sound{{Plus: 1}, zero, {Plus: 7}}, []api.Sound{{Plus: 6}}},
		{[]api.Sound{{Plus: 1}, zero, {Plus: 6, Minus: 1}}, nil},
		// Two ways to +0 +1: from +0 -1 and from -0 +1.
		{[]api.Sound{{Minus: 3}, {Plus: 1, Minus: 2}, {Plus: 2, Minus: 1}}, []api.Sound{{Plus: 3}}},
		// By Plus first, and then by Minus. There are two ways to +2 -3, too.
		{
			[]api.Sound{{Plus: 8, Minus: 4}, {Minus: 12}, {Plus: 8, Minus: 1}, {Plus: 8, Minus: 3}, {Plus: 12}},
			[]api.Sound{{Minus: 9}, {Minus: 11}, {Minus: 14}, {Plus: 4, Minus: 8}, {Plus: 8, Minus: 6}, {Plus: 12, Minus: 2}},
		},
	} {
		if l, e := natural.Gaps(x.all); !slices.Equal(l, x.want) || e != api.OK {
			t.Error(k, l, e)
		}
	}
}

// P5.7
func TestClosureProperties(t *testing.T) {
	r := rand.New(rand.NewSource(57))
	for _, all := range inventories(r, 30, 40) {
		if len(all) == 0 {
			continue
		}
		order := mixed(r, all)
		n := 1 + r.Intn(len(all))
		cond, inside, e := natural.Closure(all, order[:n])
		var class []api.Sound
		for _, i := range inside {
			class = append(class, all[i])
		}
		for _, s := range order[:n] {
			if !slices.Contains(class, s) || e != api.OK {
				t.Error("the closure has all of them", all, s, inside, e)
			}
		}
		if c, l, e := natural.Closure(all, class); c != cond || !slices.Equal(l, inside) || e != api.OK {
			t.Error("the closure of the closure", all, inside, l, e)
		}
		if ok, e := natural.Is(all, class); !ok || e != api.OK {
			t.Error("the closure is a natural class", all, inside, ok, e)
		}
		_, more, _ := natural.Closure(all, order[:n+r.Intn(len(all)-n+1)])
		for _, i := range inside {
			if !slices.Contains(more, i) {
				t.Error("more sounds, fewer members", all, inside, more)
			}
		}
	}
}

// P5.8
func TestShortestProperties(t *testing.T) {
	r := rand.New(rand.NewSource(58))
	for _, all := range inventories(r, 30, 40) {
		for range min(10, 10*len(all)) {
			_, inside, _ := natural.Closure(all, mixed(r, all)[:1+r.Intn(min(3, len(all)))])
			var some []api.Sound
			for _, i := range inside {
				some = append(some, all[i])
			}
			cond, ok, e := natural.Shortest(all, some)
			if l, _ := natural.Select(all, cond); !ok || e != api.OK || !slices.Equal(l, inside) {
				t.Fatal("not just these sounds", all, some, cond, ok, e)
			}
			if !feats.Satisfies(modelCommon(some), cond) {
				t.Error("not some of the common values", all, some, cond)
			}
			for f := range 24 {
				less, _ := feats.With(cond, f, 0)
				if l, _ := natural.Select(all, less); less != cond && len(l) <= len(inside) {
					t.Error("a value that is not necessary", all, some, cond, f)
				}
			}
		}
	}
}

// P5.9
func TestNeededProperties(t *testing.T) {
	r := rand.New(rand.NewSource(59))
	for _, all := range inventories(r, 20, 12) {
		needed, e := natural.Needed(all)
		for f := range 24 {
			left := map[api.Sound]bool{}
			for _, s := range all {
				left[give(s, f, 0)] = true
			}
			if (len(left) < len(all)) != (needed>>f&1 == 1) || e != api.OK {
				t.Error("feature", f, all, needed, e)
			}
		}
		count, _ := natural.Count(all)
		gaps, _ := natural.Gaps(all)
		other := mixed(r, all)
		if n, e := natural.Needed(other); n != needed || e != api.OK {
			t.Error("Needed in another order", all, other, n, e)
		}
		if n, e := natural.Count(other); n != count || e != api.OK {
			t.Error("Count in another order", all, other, n, e)
		}
		if l, e := natural.Gaps(other); !slices.Equal(l, gaps) || e != api.OK {
			t.Error("Gaps in another order", all, other, l, e)
		}
	}
}

// P5.10
func TestCubes(t *testing.T) {
	for k := 1; k <= 3; k++ {
		all, want := cube(k), []int{1, 3, 9, 27}[k]
		if n, e := natural.Count(all); n != want || e != api.OK {
			t.Error("Count", k, n, e)
		}
		classes := 0
		for choice := 1; choice < 1<<len(all); choice++ {
			if ok, e := natural.Is(all, chosen(all, choice)); e != api.OK {
				t.Error(k, choice, e)
			} else if ok {
				classes++
			}
		}
		if classes != want {
			t.Error("natural classes", k, classes)
		}
		if l, e := natural.Gaps(all); len(l) > 0 || e != api.OK {
			t.Error("Gaps", k, l, e)
		}
		for i, s := range all {
			l, e := natural.Gaps(without(all, i))
			if k > 1 && !slices.Equal(l, []api.Sound{s}) || k == 1 && len(l) > 0 || e != api.OK {
				t.Error("without one sound", k, s, l, e)
			}
		}
	}
	for k := range 9 {
		pairs, e := natural.Pairs(cube(k))
		if len(pairs) != k<<k/2 || e != api.OK {
			t.Error("Pairs", k, len(pairs), e)
		}
		if n, e := natural.Needed(cube(k)); bits.OnesCount32(n) != k || e != api.OK {
			t.Error("Needed", k, n, e)
		}
	}
}

// hidden returns a copy of a list with more elements behind its end, and the question whether it has changed.
func hidden(l []api.Sound) ([]api.Sound, func() bool) {
	long := append(slices.Clone(l), api.Sound{Plus: 7, Minus: 7}, p, b, a)
	before := slices.Clone(long)
	return long[:len(l)], func() bool { return !slices.Equal(long, before) }
}

// R3, R4, R8: arguments stay as they are, and results are new.
func TestMemory(t *testing.T) {
	for _, l := range [][]api.Sound{example, cube(3), every(0, 23), cube(3)[:7], nil} {
		all, allChanged := hidden(l)
		some, someChanged := hidden(l[:len(l)/2])
		for range 2 {
			_, inside, e := natural.Closure(all, some)
			if len(some) > 0 && (!slices.Equal(inside, modelMembers(l, modelCommon(some))) || e != api.OK) {
				t.Error("Closure", l, inside, e)
			}
			natural.Is(all, some)
			natural.Shortest(all, some)
			natural.Needed(all)
			natural.Count(all)
			selected, e := natural.Select(all, zero)
			if !slices.Equal(selected, modelMembers(l, zero)) || e != api.OK {
				t.Error("Select", l, selected, e)
			}
			pairs, e := natural.Pairs(all)
			if want, _ := modelPairs(l); !slices.Equal(pairs, want) || e != api.OK {
				t.Error("Pairs", l, pairs, e)
			}
			gaps, e := natural.Gaps(all)
			if !slices.Equal(gaps, modelGaps(l)) || e != api.OK {
				t.Error("Gaps", l, gaps, e)
			}
			if allChanged() || someChanged() {
				t.Fatal("an argument has changed", l)
			}
			// What is written into results must not be in the next ones.
			clear(inside)
			clear(selected)
			clear(pairs)
			clear(gaps)
		}
		if allChanged() || someChanged() {
			t.Error("a result shares memory with an argument", l)
		}
	}
}
