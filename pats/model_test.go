package pats_test

import (
	"math/rand"
	"slices"

	"ablaut/api"
)

// The features 0 (voice), 1 (stop), 2 (vowel).
var (
	p = api.Sound{Plus: 2, Minus: 5}
	b = api.Sound{Plus: 3, Minus: 4}
	a = api.Sound{Plus: 5, Minus: 2}

	zero = api.Sound{}
)

var (
	empty = api.Pat{}
	begin = api.Pat{Kind: api.PatBegin}
	end   = api.Pat{Kind: api.PatEnd}
	vowel = sound(api.Sound{Plus: 4})
	other = but(api.Sound{Plus: 4})
)

func sound(is api.Sound) api.Pat { return api.Pat{Kind: api.PatSound, Is: is} }

func but(is api.Sound) api.Pat { return api.Pat{Kind: api.PatSound, Is: is, Not: true} }

func seq(l ...api.Pat) api.Pat { return api.Pat{Kind: api.PatSeq, L: l} }

func alt(l ...api.Pat) api.Pat { return api.Pat{Kind: api.PatAlt, L: l} }

func rep(least, most int, l ...api.Pat) api.Pat {
	return api.Pat{Kind: api.PatRep, Min: least, Max: most, L: l}
}

// read returns a word of the sounds p, b and a.
func read(text string) api.Word {
	var w api.Word
	for _, c := range text {
		w = append(w, map[rune]api.Sound{'p': p, 'b': b, 'a': a}[c])
	}
	return w
}

// words are all words of up to some number of sounds of a list.
func words(most int, sounds ...api.Sound) []api.Word {
	all := []api.Word{nil}
	last := all
	for range most {
		var next []api.Word
		for _, w := range last {
			for _, s := range sounds {
				next = append(next, append(slices.Clone(w), s))
			}
		}
		all, last = append(all, next...), next
	}
	return all
}

// invalid are the kinds of sounds that are not valid.
func invalid() []api.Sound {
	return []api.Sound{
		{Plus: 1, Minus: 1}, {Plus: 3, Minus: 6}, {Plus: 1 << 23, Minus: 1 << 23},
		{Plus: 1 << 24}, {Minus: 1 << 24}, {Plus: 2, Minus: 1<<31 | 5}, {Plus: 1<<31 | 2, Minus: 5},
		{Plus: 1 << 24, Minus: 1 << 24}, {Plus: 1<<32 - 1, Minus: 1<<32 - 1},
	}
}

// deep is a pattern of n nodes, each in the one before it.
func deep(n int, last api.Pat) api.Pat {
	for i := range n - 1 {
		last = []api.Pat{seq(last), alt(last), rep(1, 1, last)}[i%3]
	}
	return last
}

// broad is a pattern of n nodes, all in the first one.
func broad(n int, each api.Pat) api.Pat { return seq(slices.Repeat([]api.Pat{each}, n-1)...) }

// inItself is a pattern that contains itself, and so has no last node.
func inItself(kind int) api.Pat {
	l := make([]api.Pat, 1)
	l[0] = api.Pat{Kind: kind, L: l}
	return l[0]
}

// doubled is a pattern whose nodes are twice as many in each level.
func doubled(levels int) api.Pat {
	q := vowel
	for range levels {
		q = seq(q, q)
	}
	return q
}

// change changes the nodes of a pattern in place, each as it says.
func change(q *api.Pat, by func(*api.Pat)) {
	for i := range q.L {
		change(&q.L[i], by)
	}
	by(q)
}

// duplicate returns a pattern that shares nothing with another one.
func duplicate(q api.Pat) api.Pat {
	d := q
	d.L = nil
	for _, r := range q.L {
		d.L = append(d.L, duplicate(r))
	}
	return d
}

// list returns the nodes of a pattern in their order, but at most 42.
func list(q api.Pat) []api.Pat {
	var l []api.Pat
	for rest := []api.Pat{q}; len(rest) > 0 && len(l) < 42; {
		first := rest[0]
		l = append(l, first)
		rest = slices.Concat(first.L, rest[1:])
	}
	return l
}

// The model: each function as the document describes it, place by place.

func value(s api.Sound, f int) int { return int(s.Plus>>f&1) - int(s.Minus>>f&1) }

func modelValid(s api.Sound) bool {
	for f := range 32 {
		plus, minus := s.Plus>>f&1 == 1, s.Minus>>f&1 == 1
		if plus && minus || f >= 24 && (plus || minus) {
			return false
		}
	}
	return true
}

func modelSatisfies(s, cond api.Sound) bool {
	for f := range 24 {
		if value(cond, f) != 0 && value(cond, f) != value(s, f) {
			return false
		}
	}
	return true
}

func modelCheck(q api.Pat) api.Errno {
	for i, n := range list(q) {
		noIs, noL := n.Is == zero && !n.Not, len(n.L) == 0
		noTimes := n.Min == 0 && n.Max == 0
		var ok bool
		switch n.Kind {
		case 0, 2, 6:
			ok = noIs && noL && noTimes
		case 1:
			ok = noL && noTimes
		case 3, 4:
			ok = noIs && noTimes
		case 5:
			ok = noIs && len(n.L) == 1 && n.Min >= 0 && n.Min <= 32 && n.Max <= 32 && (n.Max >= n.Min || n.Max == -1)
		}
		switch {
		case i == 40:
			return api.ErrMany
		case !ok:
			return api.ErrArg
		case !modelValid(n.Is):
			return api.ErrSound
		}
	}
	return api.OK
}

func modelWord(w api.Word) api.Errno {
	if len(w) > 32 {
		return api.ErrLong
	}
	for _, s := range w {
		if !modelValid(s) {
			return api.ErrSound
		}
	}
	return api.OK
}

// model answers for one word whether parts of it are matched.
type model struct {
	w     api.Word
	known map[question]bool
}

// question asks whether the elements of l from the index from on match from a to b (times: l[0] so often).
type question struct {
	l                 *api.Pat
	times, from, a, b int
}

func newModel(w api.Word) *model { return &model{w, map[question]bool{}} }

func (m *model) matches(q *api.Pat, a, b int) bool {
	switch q.Kind {
	case api.PatEmpty:
		return a == b
	case api.PatSound:
		return b == a+1 && modelSatisfies(m.w[a], q.Is) != q.Not
	case api.PatBegin:
		return a == b && a == 0
	case api.PatEnd:
		return a == b && b == len(m.w)
	case api.PatSeq:
		return m.inTurn(q.L, 0, a, b)
	case api.PatAlt:
		for i := range q.L {
			if m.matches(&q.L[i], a, b) {
				return true
			}
		}
		return false
	}
	most := q.Max
	if most == -1 {
		// More repetitions would have to match the empty part.
		most = q.Min + len(m.w) + 1
	}
	for k := q.Min; k <= most; k++ {
		if m.repeated(&q.L[0], k, a, b) {
			return true
		}
	}
	return false
}

func (m *model) inTurn(l []api.Pat, from, a, b int) bool {
	if from == len(l) {
		return a == b
	}
	ask := question{&l[0], 0, from, a, b}
	if found, ok := m.known[ask]; ok {
		return found
	}
	found := false
	for c := a; c <= b && !found; c++ {
		found = m.matches(&l[from], a, c) && m.inTurn(l, from+1, c, b)
	}
	m.known[ask] = found
	return found
}

func (m *model) repeated(q *api.Pat, times, a, b int) bool {
	if times == 0 {
		return a == b
	}
	ask := question{q, times, -1, a, b}
	if found, ok := m.known[ask]; ok {
		return found
	}
	found := false
	for c := a; c <= b && !found; c++ {
		found = m.matches(q, a, c) && m.repeated(q, times-1, c, b)
	}
	m.known[ask] = found
	return found
}

func (m *model) ends(q *api.Pat, at int) []int {
	var l []int
	for b := at; b <= len(m.w); b++ {
		if m.matches(q, at, b) {
			l = append(l, b)
		}
	}
	return l
}

func (m *model) begins(q *api.Pat, end int) []int {
	var l []int
	for a := range end + 1 {
		if m.matches(q, a, end) {
			l = append(l, a)
		}
	}
	return l
}

func (m *model) find(q *api.Pat, from int) (int, int, bool) {
	for a := from; a <= len(m.w); a++ {
		if l := m.ends(q, a); len(l) > 0 {
			return a, l[len(l)-1], true
		}
	}
	return 0, 0, false
}

// small are all patterns with some number of nodes: of each kind, with few sounds and few numbers of repetitions.
func small(n int) []api.Pat {
	var l []api.Pat
	if n == 1 {
		l = append(l, empty, begin, end, vowel, other)
	}
	for _, group := range groups(n - 1) {
		l = append(l, seq(group...), alt(group...))
		if len(group) == 1 {
			for least := range 3 {
				l = append(l, rep(least, -1, group...))
				for most := least; most < 4; most++ {
					l = append(l, rep(least, most, group...))
				}
			}
		}
	}
	return l
}

// groups are all lists of small patterns with some number of nodes together.
func groups(n int) [][]api.Pat {
	if n == 0 {
		return [][]api.Pat{nil}
	}
	var l [][]api.Pat
	for size := 1; size <= n; size++ {
		for _, first := range small(size) {
			for _, rest := range groups(n - size) {
				l = append(l, append([]api.Pat{first}, rest...))
			}
		}
	}
	return l
}

// random is a valid pattern of exactly n nodes.
func random(r *rand.Rand, n int) api.Pat {
	if n == 1 {
		return []api.Pat{empty, begin, end, seq(), alt(), vowel, other, sound(p), but(b), sound(api.Sound{Plus: 1}), but(zero), sound(zero)}[r.Intn(12)]
	}
	if r.Intn(4) == 0 {
		least := r.Intn(4)
		most := least + r.Intn(4)
		if r.Intn(3) == 0 {
			most = -1
		}
		return rep(least, most, random(r, n-1))
	}
	var l []api.Pat
	for rest := n - 1; rest > 0; {
		size := 1 + r.Intn(rest)
		l = append(l, random(r, size))
		rest -= size
	}
	if r.Intn(2) == 0 {
		return alt(l...)
	}
	return seq(l...)
}

// wild is a pattern that is mostly not valid.
func wild(r *rand.Rand, levels int) api.Pat {
	number := func() int { return []int{0, 0, 0, 1, 2, 32, 33, -1, -2, 1 << 62, -1 << 63}[r.Intn(11)] }
	q := api.Pat{Kind: r.Intn(9) - 1, Min: number(), Max: number(), Not: r.Intn(4) == 0}
	if r.Intn(3) == 0 {
		q.Is = append(invalid(), p, a, zero)[r.Intn(12)]
	}
	for range r.Intn(3) {
		if levels > 0 {
			q.L = append(q.L, wild(r, levels-1))
		}
	}
	return q
}

func randomWord(r *rand.Rand, n int) api.Word {
	w := make(api.Word, n)
	for i := range w {
		w[i] = []api.Sound{p, b, a, a, zero}[r.Intn(5)]
	}
	return w
}

func backwards(w api.Word) api.Word {
	v := slices.Clone(w)
	slices.Reverse(v)
	return v
}
