package law_test

import (
	"math/rand"
	"slices"

	"ablaut/api"
	"ablaut/law"
	"ablaut/pats"
)

// The features 0 (voice), 1 (stop), 2 (vowel).
var (
	p = api.Sound{Plus: 2, Minus: 5}
	b = api.Sound{Plus: 3, Minus: 4}
	a = api.Sound{Plus: 5, Minus: 2}

	zero    = api.Sound{}
	isStop  = api.Sound{Plus: 2}
	isVowel = api.Sound{Plus: 4}
	voiced  = api.Sound{Plus: 1}
)

var (
	empty = api.Pat{}
	begin = api.Pat{Kind: api.PatBegin}
	end   = api.Pat{Kind: api.PatEnd}
	vowel = sound(isVowel)
	stop  = sound(isStop)
	other = api.Pat{Kind: api.PatSound, Is: isVowel, Not: true}
	never = alt()
)

var modes = []int{api.ModeAll, api.ModeRight, api.ModeLeft}

func sound(is api.Sound) api.Pat { return api.Pat{Kind: api.PatSound, Is: is} }

func seq(l ...api.Pat) api.Pat { return api.Pat{Kind: api.PatSeq, L: l} }

func alt(l ...api.Pat) api.Pat { return api.Pat{Kind: api.PatAlt, L: l} }

func rep(least, most int, l ...api.Pat) api.Pat {
	return api.Pat{Kind: api.PatRep, Min: least, Max: most, L: l}
}

// broad is a pattern of n nodes.
func broad(n int) api.Pat { return seq(slices.Repeat([]api.Pat{empty}, n-1)...) }

func list(s ...api.Sound) []api.Sound { return s }

func keep(from int) api.Out { return api.Out{From: from} }

func put(s api.Sound) api.Out { return api.Out{From: -1, Set: s} }

func set(from int, s api.Sound) api.Out { return api.Out{From: from, Set: s} }

// The laws of the chapter's examples.
func lawV() api.Law {
	return api.Law{Name: "V", Left: vowel, Right: vowel, If: list(isStop), Out: []api.Out{set(0, voiced)}, Mode: api.ModeAll}
}

func lawF() api.Law {
	return api.Law{Name: "F", Right: end, If: list(isVowel), Mode: api.ModeAll}
}

func lawE() api.Law {
	return api.Law{Name: "E", Left: begin, Out: []api.Out{put(a)}, Mode: api.ModeAll}
}

func in(l api.Law, mode int) api.Law {
	l.Mode = mode
	return l
}

// read returns a word of the sounds p, b and a; a full stop is the sound without values.
func read(text string) api.Word {
	var w api.Word
	for _, c := range text {
		w = append(w, map[rune]api.Sound{'p': p, 'b': b, 'a': a, '.': zero}[c])
	}
	return w
}

// words are all words of up to some number of sounds of a list.
func words(most int, sounds ...api.Sound) []api.Word {
	all := []api.Word{nil}
	last := all
	for range most {
		var next []api.Word
		for _, w := range last {
			for _, s := range sounds {
				next = append(next, append(slices.Clone(w), s))
			}
		}
		all, last = append(all, next...), next
	}
	return all
}

// invalid are the kinds of sounds that are not valid.
func invalid() []api.Sound {
	return []api.Sound{
		{Plus: 1, Minus: 1}, {Plus: 3, Minus: 6}, {Plus: 1 << 23, Minus: 1 << 23},
		{Plus: 1 << 24}, {Minus: 1 << 24}, {Plus: 2, Minus: 1<<31 | 5}, {Plus: 1<<31 | 2, Minus: 5},
		{Plus: 1 << 24, Minus: 1 << 24}, {Plus: 1<<32 - 1, Minus: 1<<32 - 1},
	}
}

func same(x, y []api.Word) bool {
	return slices.EqualFunc(x, y, func(v, w api.Word) bool { return slices.Equal(v, w) })
}

func backwards(w api.Word) api.Word {
	v := slices.Clone(w)
	slices.Reverse(v)
	return v
}

// The model: each function as the document describes it. Patterns are asked from their other ends.

func value(s api.Sound, f int) int { return int(s.Plus>>f&1) - int(s.Minus>>f&1) }

func modelSound(s api.Sound) bool {
	for f := range 32 {
		plus, minus := s.Plus>>f&1 == 1, s.Minus>>f&1 == 1
		if plus && minus || f >= 24 && (plus || minus) {
			return false
		}
	}
	return true
}

func modelSatisfies(s, cond api.Sound) bool {
	for f := range 24 {
		if value(cond, f) != 0 && value(cond, f) != value(s, f) {
			return false
		}
	}
	return true
}

func modelName(s string) bool {
	for _, c := range []byte(s) {
		if !slices.Contains([]byte("abcdefghijklmnopqrstuvwxyzABCDEFGHIJKLMNOPQRSTUVWXYZ0123456789-"), c) {
			return false
		}
	}
	return len(s) >= 1 && len(s) <= 24
}

func modelOut(o api.Out, conditions int) bool {
	for f := range 32 {
		ways := 0
		for _, set := range []uint32{o.Clear, o.Take, o.Set.Plus, o.Set.Minus} {
			ways += int(set >> f & 1)
		}
		if ways > 1 || ways > 0 && f >= 24 {
			return false
		}
	}
	if o.From < -1 || o.From >= conditions {
		return false
	}
	if o.Take == 0 {
		return o.Of == 0
	}
	return o.Of >= 0 && o.Of < conditions
}

func modelLaw(l api.Law) bool {
	if !modelName(l.Name) || pats.Check(l.Left) != api.OK || pats.Check(l.Right) != api.OK {
		return false
	}
	if len(l.If) > 4 || len(l.Out) > 6 || len(l.If) == 0 && len(l.Out) == 0 {
		return false
	}
	for _, s := range l.If {
		if !modelSound(s) {
			return false
		}
	}
	for _, o := range l.Out {
		if !modelOut(o, len(l.If)) {
			return false
		}
	}
	return slices.Contains(modes, l.Mode)
}

func modelHit(l api.Law, w api.Word, i int) bool {
	k := len(l.If)
	if i < 0 || i+k > len(w) {
		return false
	}
	for j := range l.If {
		if !modelSatisfies(w[i+j], l.If[j]) {
			return false
		}
	}
	return modelBefore(l.Left, w, i) && modelBehind(l.Right, w, i+k)
}

func modelBefore(q api.Pat, w api.Word, place int) bool {
	for x := range place + 1 {
		if ends, _ := pats.Ends(q, w, x); slices.Contains(ends, place) {
			return true
		}
	}
	return false
}

func modelBehind(q api.Pat, w api.Word, place int) bool {
	for y := len(w); y >= place; y-- {
		if begins, _ := pats.Begins(q, w, y); slices.Contains(begins, place) {
			return true
		}
	}
	return false
}

func modelHits(l api.Law, w api.Word) []int {
	var hit []int
	for i := range len(w) + 1 {
		if modelHit(l, w, i) {
			hit = append(hit, i)
		}
	}
	return hit
}

// modelPut returns what is put in, feature by feature.
func modelPut(l api.Law, taken []api.Sound) api.Word {
	var w api.Word
	for _, o := range l.Out {
		var s api.Sound
		for f := range 24 {
			v := 0
			if o.From >= 0 {
				v = value(taken[o.From], f)
			}
			if o.Clear>>f&1 == 1 {
				v = 0
			}
			if value(o.Set, f) != 0 {
				v = value(o.Set, f)
			}
			if o.Take>>f&1 == 1 {
				v = value(taken[o.Of], f)
			}
			switch v {
			case 1:
				s.Plus |= 1 << f
			case -1:
				s.Minus |= 1 << f
			}
		}
		w = append(w, s)
	}
	return w
}

// modelTrace applies a law to what has not been passed yet. It fails when a word is too long.
func modelTrace(l api.Law, w api.Word) (places []int, after []api.Word, e api.Errno) {
	switch l.Mode {
	case api.ModeAll:
		places, after = modelAll(l, w)
	case api.ModeRight:
		places, after = modelRight(l, w)
	case api.ModeLeft:
		places, after = modelLeft(l, w)
	}
	for _, v := range after {
		if len(v) > 32 {
			return nil, nil, api.ErrLong
		}
	}
	return places, after, api.OK
}

// modelAll chooses the places before it replaces anything.
func modelAll(l api.Law, w api.Word) (places []int, after []api.Word) {
	k := len(l.If)
	next := 0
	for _, i := range modelHits(l, w) {
		if i >= next {
			places = append(places, i)
			next = i + max(k, 1)
		}
	}
	var became api.Word
	rest := 0
	for _, i := range places {
		became = slices.Concat(became, w[rest:i], modelPut(l, w[i:i+k]))
		rest = i + k
		after = append(after, slices.Concat(became, w[rest:]))
	}
	return places, after
}

// modelRight has the word in two parts: what is passed, and what is not.
func modelRight(l api.Law, w api.Word) (places []int, after []api.Word) {
	k := len(l.If)
	var passed api.Word
	rest := w
	pass := func() bool {
		if len(rest) == 0 {
			return false
		}
		passed, rest = slices.Concat(passed, rest[:1]), rest[1:]
		return true
	}
	for len(rest) >= k && len(passed)+len(rest) <= 32 {
		now := slices.Concat(passed, rest)
		if !modelHit(l, now, len(passed)) {
			if !pass() {
				break
			}
			continue
		}
		places = append(places, len(passed))
		passed, rest = slices.Concat(passed, modelPut(l, rest[:k])), rest[k:]
		after = append(after, slices.Concat(passed, rest))
		if k == 0 && !pass() {
			break
		}
	}
	return places, after
}

// modelLeft has the word in two parts, too; the one behind is passed.
func modelLeft(l api.Law, w api.Word) (places []int, after []api.Word) {
	k := len(l.If)
	rest := w
	var passed api.Word
	pass := func() bool {
		if len(rest) == 0 {
			return false
		}
		rest, passed = rest[:len(rest)-1], slices.Concat(rest[len(rest)-1:], passed)
		return true
	}
	for len(rest) >= k && len(passed)+len(rest) <= 32 {
		now := slices.Concat(rest, passed)
		at := len(rest) - k
		if !modelHit(l, now, at) {
			if !pass() {
				break
			}
			continue
		}
		places = append(places, at)
		rest, passed = rest[:at], slices.Concat(modelPut(l, rest[at:]), passed)
		after = append(after, slices.Concat(rest, passed))
		if k == 0 && !pass() {
			break
		}
	}
	return places, after
}

// lastOf returns the last word of a trace, which did not fail.
func lastOf(w api.Word, after []api.Word, e api.Errno) api.Word {
	if e != api.OK {
		return nil
	}
	return slices.Concat([]api.Word{w}, after)[len(after)]
}

func modelSettle(l api.Law, w api.Word, most int) (api.Word, int, api.Errno) {
	changed := 0
	for range most {
		_, after, e := modelTrace(l, w)
		if e != api.OK {
			return nil, 0, e
		}
		next := lastOf(w, after, e)
		if slices.Equal(next, w) {
			break
		}
		w = next
		changed++
	}
	return w, changed, api.OK
}

func modelKind(l api.Law) int {
	if len(l.Out) < len(l.If) {
		return law.KindLoss
	}
	if len(l.Out) > len(l.If) {
		return law.KindGrowth
	}
	own, times := true, make([]int, len(l.If)+1)
	for i, o := range l.Out {
		own = own && o.From == i
		times[o.From+1]++
	}
	once := times[0] == 0
	for _, n := range times[1:] {
		once = once && n == 1
	}
	switch {
	case own:
		return law.KindChange
	case once:
		return law.KindOrder
	}
	return law.KindOther
}

// mirror returns the law for reversed words.
func mirror(l api.Law) api.Law {
	last := len(l.If) - 1
	m := l
	m.Left, _ = pats.Mirror(l.Right)
	m.Right, _ = pats.Mirror(l.Left)
	m.If = slices.Clone(l.If)
	slices.Reverse(m.If)
	m.Out = slices.Clone(l.Out)
	slices.Reverse(m.Out)
	for i, o := range m.Out {
		if o.From >= 0 {
			m.Out[i].From = last - o.From
		}
		if o.Take != 0 {
			m.Out[i].Of = last - o.Of
		}
	}
	switch l.Mode {
	case api.ModeRight:
		m.Mode = api.ModeLeft
	case api.ModeLeft:
		m.Mode = api.ModeRight
	}
	return m
}

// Random laws and words.

func randomPat(r *rand.Rand, n int) api.Pat {
	if n == 1 {
		return []api.Pat{empty, begin, end, seq(), never, vowel, stop, other, sound(p), sound(zero), sound(voiced)}[r.Intn(11)]
	}
	if r.Intn(4) == 0 {
		least := r.Intn(3)
		return rep(least, []int{-1, least, least + 2}[r.Intn(3)], randomPat(r, n-1))
	}
	var l []api.Pat
	for rest := n - 1; rest > 0; {
		size := 1 + r.Intn(rest)
		l = append(l, randomPat(r, size))
		rest -= size
	}
	if r.Intn(2) == 0 {
		return alt(l...)
	}
	return seq(l...)
}

// randomOut is a valid element of Out that changes the features 0 to 3 and 23.
func randomOut(r *rand.Rand, conditions int) api.Out {
	o := api.Out{From: r.Intn(conditions+1) - 1}
	if r.Intn(3) == 0 {
		return o
	}
	for _, f := range []int{0, 1, 2, 3, 23} {
		switch r.Intn(8) {
		case 0:
			o.Clear |= 1 << f
		case 1:
			o.Set.Plus |= 1 << f
		case 2:
			o.Set.Minus |= 1 << f
		case 3:
			if conditions > 0 {
				o.Take |= 1 << f
			}
		}
	}
	if o.Take != 0 {
		o.Of = r.Intn(conditions)
	}
	return o
}

// randomLaw is a valid law.
func randomLaw(r *rand.Rand, nodes int) api.Law {
	l := api.Law{Name: "x", Mode: 1 + r.Intn(3)}
	if r.Intn(3) > 0 {
		l.Left = randomPat(r, 1+r.Intn(nodes))
	}
	if r.Intn(3) > 0 {
		l.Right = randomPat(r, 1+r.Intn(nodes))
	}
	for range r.Intn(5) {
		l.If = append(l.If, list(zero, zero, isVowel, isStop, p, voiced)[r.Intn(6)])
	}
	for range r.Intn(7) {
		l.Out = append(l.Out, randomOut(r, len(l.If)))
	}
	if len(l.If) == 0 && len(l.Out) == 0 {
		l.Out = []api.Out{put(a)}
	}
	return l
}

func randomWord(r *rand.Rand, n int) api.Word {
	w := make(api.Word, n)
	for i := range w {
		w[i] = list(p, b, a, a, zero, api.Sound{Plus: 8, Minus: 1 << 23})[r.Intn(6)]
	}
	return w
}

// wild is a law that is often not valid.
func wild(r *rand.Rand) api.Law {
	l := randomLaw(r, 3)
	odd := func() int { return []int{-2, -1, 0, 1, 2, 3, 4, 1 << 32, -1 << 63}[r.Intn(9)] }
	bits := func() uint32 { return []uint32{1, 2, 1 << 23, 1 << 24, 1 << 31}[r.Intn(5)] }
	for range r.Intn(3) {
		var o *api.Out
		if len(l.Out) > 0 {
			o = &l.Out[r.Intn(len(l.Out))]
		} else {
			o = &api.Out{}
		}
		switch r.Intn(13) {
		case 0:
			l.Name = []string{"", "x y", "ä", "X-9", "abcdefghijklmnopqrstuvwxy"}[r.Intn(5)]
		case 1:
			l.Left = api.Pat{Kind: odd(), Min: r.Intn(2)}
		case 2:
			l.Right = sound(invalid()[r.Intn(9)])
		case 3:
			l.If = append(l.If, zero, zero)
		case 4:
			l.If = append(l.If, invalid()[r.Intn(9)])
		case 5:
			l.Out = append(l.Out, keep(-1), keep(-1))
		case 6:
			l.If = l.If[:0]
		case 7:
			o.From = odd()
		case 8:
			o.Clear ^= bits()
		case 9:
			o.Set.Plus ^= bits()
		case 10:
			o.Take ^= bits()
		case 11:
			o.Of = odd()
		case 12:
			l.Mode = odd()
		}
	}
	return l
}
