package auto_test

import (
	"math/big"
	"math/rand"
	"slices"
	"testing"

	"ablaut/api"
	"ablaut/auto"
	"ablaut/word"
)

// The features 0 (voice), 1 (stop), 2 (vowel).
var (
	p = api.Sound{Plus: 2, Minus: 5}
	b = api.Sound{Plus: 3, Minus: 4}
	a = api.Sound{Plus: 5, Minus: 2}

	zero = api.Sound{}
)

var (
	empty = api.Pat{}
	begin = api.Pat{Kind: api.PatBegin}
	end   = api.Pat{Kind: api.PatEnd}
	stop  = sound(api.Sound{Plus: 2})
	vowel = sound(api.Sound{Plus: 4})
	other = but(api.Sound{Plus: 4})
	any1  = sound(zero)
	none  = alt()

	// The pattern of the chapter's examples.
	example = seq(stop, star(vowel), end)
)

func sound(is api.Sound) api.Pat { return api.Pat{Kind: api.PatSound, Is: is} }

func but(is api.Sound) api.Pat { return api.Pat{Kind: api.PatSound, Is: is, Not: true} }

func seq(l ...api.Pat) api.Pat { return api.Pat{Kind: api.PatSeq, L: l} }

func alt(l ...api.Pat) api.Pat { return api.Pat{Kind: api.PatAlt, L: l} }

func rep(least, most int, l ...api.Pat) api.Pat {
	return api.Pat{Kind: api.PatRep, Min: least, Max: most, L: l}
}

func star(q api.Pat) api.Pat { return rep(0, -1, q) }

// times is a pattern so often.
func times(n int, q api.Pat) api.Pat { return rep(n, n, q) }

// inTurn is the pattern that matches just one word of few sounds.
func inTurn(w api.Word) api.Pat {
	l := make([]api.Pat, len(w))
	for i, s := range w {
		l[i] = sound(s)
	}
	return seq(l...)
}

// list returns the sounds p, b and a of a text.
func list(text string) []api.Sound {
	var l []api.Sound
	for _, c := range text {
		l = append(l, map[rune]api.Sound{'p': p, 'b': b, 'a': a}[c])
	}
	return l
}

// eight are eight sounds, not in their order. Features 0 to 2 have all values.
func eight() []api.Sound {
	var l []api.Sound
	for _, n := range []uint32{5, 0, 7, 2, 1, 6, 3, 4} {
		l = append(l, api.Sound{Plus: n, Minus: 7 &^ n})
	}
	return l
}

// invalid are the kinds of sounds that are not valid.
func invalid() []api.Sound {
	return []api.Sound{
		{Plus: 1, Minus: 1}, {Plus: 3, Minus: 6}, {Plus: 1 << 23, Minus: 1 << 23},
		{Plus: 1 << 24}, {Minus: 1 << 24}, {Plus: 2, Minus: 1<<31 | 5}, {Plus: 1<<31 | 2, Minus: 5},
		{Plus: 1 << 24, Minus: 1 << 24}, {Plus: 1<<32 - 1, Minus: 1<<32 - 1},
	}
}

// deep is a pattern of n nodes, each in the one before it.
func deep(n int, last api.Pat) api.Pat {
	for i := range n - 1 {
		last = []api.Pat{seq(last), alt(last), rep(1, 1, last)}[i%3]
	}
	return last
}

// within is a pattern so many times in repetitions.
func within(levels, least, most int, q api.Pat) api.Pat {
	for range levels {
		q = rep(least, most, q)
	}
	return q
}

// broad is a pattern of n nodes, all in the first one.
func broad(n int, each api.Pat) api.Pat { return seq(slices.Repeat([]api.Pat{each}, n-1)...) }

// build builds an automaton that is possible.
func build(t *testing.T, q api.Pat, sounds []api.Sound) *auto.Auto {
	t.Helper()
	x, e := auto.Build(q, sounds)
	if x == nil || e != api.OK {
		t.Fatal("Build", q, sounds, e)
	}
	return x
}

// and combines automata that can be combined.
func and(t *testing.T, x *auto.Auto, more ...*auto.Auto) *auto.Auto {
	t.Helper()
	for _, y := range more {
		both, e := auto.And(x, y)
		if both == nil || e != api.OK {
			t.Fatal("And", x.States(), y.States(), e)
		}
		x = both
	}
	return x
}

// one is the list of the only sound of some alphabets.
var one = []api.Sound{a}

// every accepts the words of one sound whose numbers of sounds are n, n + m, n + 2 m and so on; n is below m.
func every(t *testing.T, n, m int) *auto.Auto {
	t.Helper()
	whole := build(t, star(times(m, vowel)), one)
	if n == 0 {
		return whole
	}
	// A pattern for n + m sounds would be too wide.
	return and(t, build(t, star(seq(times(n, vowel), alt(end, times(m-n, vowel)))), one), whole.Not())
}

// atLeast accepts the words of one sound that have at least n sounds.
func atLeast(t *testing.T, n int) *auto.Auto {
	t.Helper()
	return build(t, rep(n, -1, vowel), one)
}

// The model: what the document says, list by list.

// ends returns at which places of a list of any length a pattern can end that begins at one of some places.
func ends(q api.Pat, w []api.Sound, from []bool) []bool {
	to := make([]bool, len(w)+1)
	switch q.Kind {
	case api.PatEmpty:
		copy(to, from)
	case api.PatBegin:
		to[0] = from[0]
	case api.PatEnd:
		to[len(w)] = from[len(w)]
	case api.PatSound:
		for i, s := range w {
			to[i+1] = from[i] && satisfies(s, q.Is) != q.Not
		}
	case api.PatSeq:
		copy(to, from)
		for _, r := range q.L {
			to = ends(r, w, to)
		}
	case api.PatAlt:
		for _, r := range q.L {
			add(to, ends(r, w, from))
		}
	case api.PatRep:
		now := from
		for range q.Min {
			now = ends(q.L[0], w, now)
		}
		add(to, now)
		for k := q.Min; q.Max == -1 || k < q.Max; k++ {
			now = ends(q.L[0], w, now)
			if !add(to, now) {
				break
			}
		}
	}
	return to
}

// add adds places to others, and reports whether there are more then.
func add(to, more []bool) bool {
	added := false
	for i, is := range more {
		added = added || is && !to[i]
		to[i] = to[i] || is
	}
	return added
}

func satisfies(s, cond api.Sound) bool {
	return s.Plus&cond.Plus == cond.Plus && s.Minus&cond.Minus == cond.Minus
}

// matches reports whether a pattern matches a list of any length.
func matches(q api.Pat, w []api.Sound) bool {
	from := make([]bool, len(w)+1)
	from[0] = true
	return ends(q, w, from)[len(w)]
}

// accepted is the question which lists an automaton accepts.
type accepted func(w []api.Sound) bool

func by(q api.Pat) accepted { return func(w []api.Sound) bool { return matches(q, w) } }

// lists are all lists of up to some number of sounds, in the order of words.
func lists(most int, sounds []api.Sound) [][]api.Sound {
	all := [][]api.Sound{nil}
	last := all
	for range most {
		var next [][]api.Sound
		for _, w := range last {
			for _, s := range sounds {
				next = append(next, append(slices.Clone(w), s))
			}
		}
		all, last = append(all, next...), next
	}
	slices.SortStableFunc(all, before)
	return all
}

// before compares words in the order of the chapter.
func before(v, w api.Word) int {
	if len(v) != len(w) {
		return len(v) - len(w)
	}
	return word.Order(v, w)
}

// states returns how many states there are, if lists of up to some number of sounds are enough to tell them apart.
func states(is accepted, sounds []api.Sound, most int) int {
	behind := lists(most, sounds)
	known := map[string]bool{}
	for rest := [][]api.Sound{nil}; len(rest) > 0; rest = rest[1:] {
		row := make([]byte, len(behind))
		for i, z := range behind {
			if is(slices.Concat(rest[0], z)) {
				row[i] = 1
			}
		}
		if known[string(row)] {
			continue
		}
		known[string(row)] = true
		for _, s := range sounds {
			rest = append(rest, append(slices.Clone(rest[0]), s))
		}
	}
	return len(known)
}

// widthOf returns the width of a pattern.
func widthOf(q api.Pat) *big.Int {
	sum := new(big.Int)
	for _, r := range q.L {
		sum.Add(sum, widthOf(r))
	}
	switch q.Kind {
	case api.PatSound:
		return big.NewInt(1)
	case api.PatRep:
		return sum.Mul(sum, big.NewInt(int64(max(1, q.Min, q.Max))))
	}
	return sum
}

func tooWide(q api.Pat) bool { return widthOf(q).Cmp(big.NewInt(10)) > 0 }

// small are all patterns with some number of nodes: of each kind, with few sounds and few numbers of repetitions.
func small(n int) []api.Pat {
	var l []api.Pat
	if n == 1 {
		l = append(l, empty, begin, end, vowel, other)
	}
	for _, group := range groups(n - 1) {
		l = append(l, seq(group...), alt(group...))
		if len(group) == 1 {
			for least := range 3 {
				l = append(l, rep(least, -1, group...))
				for most := least; most < 4; most++ {
					l = append(l, rep(least, most, group...))
				}
			}
		}
	}
	return l
}

// groups are all lists of small patterns with some number of nodes together.
func groups(n int) [][]api.Pat {
	if n == 0 {
		return [][]api.Pat{nil}
	}
	var l [][]api.Pat
	for size := 1; size <= n; size++ {
		for _, first := range small(size) {
			for _, rest := range groups(n - size) {
				l = append(l, append([]api.Pat{first}, rest...))
			}
		}
	}
	return l
}

// random is a valid pattern of exactly n nodes.
func random(r *rand.Rand, n int) api.Pat {
	if n == 1 {
		return []api.Pat{empty, begin, end, seq(), alt(), vowel, other, stop, sound(p), but(b), sound(api.Sound{Plus: 1}), but(zero), any1, any1}[r.Intn(14)]
	}
	if r.Intn(3) == 0 {
		least := r.Intn(4)
		most := least + r.Intn(4)
		if r.Intn(2) == 0 {
			most = -1
		}
		return rep(least, most, random(r, n-1))
	}
	var l []api.Pat
	for rest := n - 1; rest > 0; {
		size := 1 + r.Intn(rest)
		l = append(l, random(r, size))
		rest -= size
	}
	if r.Intn(2) == 0 {
		return alt(l...)
	}
	return seq(l...)
}

// randomNarrow is a random pattern that is not too wide.
func randomNarrow(r *rand.Rand, n int) api.Pat {
	for {
		if q := random(r, n); !tooWide(q) {
			return q
		}
	}
}

// randomList is a list of n of some sounds.
func randomList(r *rand.Rand, n int, sounds []api.Sound) []api.Sound {
	l := make([]api.Sound, n)
	for i := range l {
		l[i] = sounds[r.Intn(len(sounds))]
	}
	return l
}

// randomSounds are n different sounds in any order.
func randomSounds(r *rand.Rand, n int) []api.Sound {
	l := eight()
	r.Shuffle(len(l), func(i, j int) { l[i], l[j] = l[j], l[i] })
	return l[:n]
}

// reaches says how many sounds the lists have that are gone through for an alphabet.
func reaches(sounds []api.Sound) int { return []int{4, 12, 5, 4, 3, 3, 2, 2, 2}[len(sounds)] }
