package word_test

import (
	"encoding/binary"
	"math/rand"
	"slices"
	"strconv"
	"strings"
	"testing"

	"ablaut/api"
	"ablaut/word"
)

// The features 0 (voice), 1 (stop), 2 (vowel), 3 (front): three sounds, in this order.
var (
	p = api.Sound{Plus: 2, Minus: 13}
	a = api.Sound{Plus: 5, Minus: 10}
	t = api.Sound{Plus: 10, Minus: 5}

	both   = api.Sound{Plus: 1, Minus: 1}
	plus24 = api.Sound{Plus: 1 << 24}
	less24 = api.Sound{Minus: 1 << 24}
)

const (
	all    = uint32(1)<<24 - 1
	minInt = -1 << 63
	maxInt = 1<<63 - 1
)

// spell returns the word that a text writes with the letters p, a and t.
func spell(text string) api.Word {
	var w api.Word
	for _, c := range text {
		switch c {
		case 'p':
			w = append(w, p)
		case 'a':
			w = append(w, a)
		case 't':
			w = append(w, t)
		default:
			panic("no such letter")
		}
	}
	return w
}

// spellAll returns the words that the fields of a text write; a field - is the empty word.
func spellAll(text string) []api.Word {
	var l []api.Word
	for _, x := range strings.Fields(text) {
		l = append(l, spell(strings.Trim(x, "-")))
	}
	return l
}

// words are all words of at most n sounds p, a and t.
func words(n int) []api.Word {
	l := []api.Word{nil}
	for from := 0; n > 0; n-- {
		to := len(l)
		for _, w := range l[from:to] {
			for _, s := range []api.Sound{p, a, t} {
				l = append(l, append(slices.Clone(w), s))
			}
		}
		from = to
	}
	return l
}

// invalid are the kinds of sounds that are not valid.
func invalid() []api.Sound {
	return []api.Sound{
		both, plus24, less24,
		{Plus: 1 << 23, Minus: 1 << 23},
		{Plus: 3, Minus: 6},
		{Plus: 1<<31 | 2, Minus: 5},
		{Plus: 2, Minus: 1<<31 | 5},
		{Plus: 1 << 24, Minus: 1 << 24},
		{Plus: 1<<32 - 1, Minus: 1<<32 - 1},
	}
}

// odd are lists of sounds that are no words: too long ones, and ones with sounds that are not valid.
func odd() []api.Word {
	l := []api.Word{repeat(p, 33), repeat(a, 40), repeat(both, 33), append(repeat(p, 32), a), append(repeat(p, 33), both)}
	for _, s := range invalid() {
		l = append(l, api.Word{s}, api.Word{p, s}, api.Word{s, p}, api.Word{s, s}, api.Word{p, s, s, a})
	}
	return l
}

func repeat(s api.Sound, n int) api.Word { return slices.Repeat(api.Word{s}, n) }

// mix returns n sounds, of which neighbours differ.
func mix(n int) api.Word { return slices.Repeat(api.Word{p, a, t, a}, n)[:n] }

// code writes a word as bytes, eight for each sound, which are ordered like the word.
func code(w api.Word) string {
	var b []byte
	for _, s := range w {
		b = binary.BigEndian.AppendUint32(b, s.Plus)
		b = binary.BigEndian.AppendUint32(b, s.Minus)
	}
	return string(b)
}

func codes(l []api.Word) []string {
	var c []string
	for _, w := range l {
		c = append(c, code(w))
	}
	return c
}

func same(v, w api.Word) bool { return code(v) == code(w) }

// badWord is a word that is not valid, and what Check returns for it.
type badWord struct {
	w api.Word
	e api.Errno
}

// bad are the kinds of words that are not valid.
func bad() map[string]badWord {
	m := map[string]badWord{
		"33 sounds":                    {repeat(p, 33), api.ErrLong},
		"33 zero sounds":               {make(api.Word, 33), api.ErrLong},
		"64 sounds":                    {mix(64), api.ErrLong},
		"1000 sounds":                  {mix(1000), api.ErrLong},
		"33 sounds, the last not":      {append(repeat(p, 32), both), api.ErrLong},
		"33 sounds, the first not":     {append(api.Word{both}, mix(32)...), api.ErrLong},
		"33 sounds, none of them":      {repeat(plus24, 33), api.ErrLong},
		"32 sounds, the last not":      {append(mix(31), less24), api.ErrSound},
		"32 sounds, the first not":     {append(api.Word{both}, mix(31)...), api.ErrSound},
		"32 sounds, none of them":      {repeat(plus24, 32), api.ErrSound},
		"3 sounds, the middle one not": {api.Word{p, both, a}, api.ErrSound},
	}
	for k, s := range invalid() {
		m["one sound, number "+strconv.Itoa(k)] = badWord{api.Word{s}, api.ErrSound}
	}
	return m
}

// P2.1
func TestCheck(tt *testing.T) {
	good := append(words(3), nil, api.Word{}, api.Word{{}}, make(api.Word, 32), repeat(p, 31), repeat(t, 32), mix(32), mix(40)[:32],
		api.Word{{Plus: all}, {Minus: all}, {Plus: 1 << 23}, {Minus: 1 << 23}, {Plus: all &^ 1, Minus: 1}})
	for _, w := range good {
		if e := word.Check(w); e != api.OK {
			tt.Error(w, e)
		}
	}
	for k, x := range bad() {
		if e := word.Check(x.w); e != x.e {
			tt.Error(k, e)
		}
	}
	for f := range 32 {
		want := api.ErrSound
		if f < 24 {
			want = api.OK
		}
		for _, s := range []api.Sound{{Plus: 1 << f}, {Minus: 1 << f}} {
			if e := word.Check(api.Word{p, s}); e != want {
				tt.Fatal(s, e)
			}
		}
		if e := word.Check(api.Word{p, {Plus: 1 << f, Minus: 1 << f}}); e != api.ErrSound {
			tt.Error("both values", f, e)
		}
	}
}

// strange are lists of sounds that differ in one thing each: a value, a sound, a length, in valid sounds and in others.
func strange() []api.Word {
	l := append(words(2), odd()...)
	for _, s := range []api.Sound{{}, {Minus: 1}, {Minus: 2}, {Minus: 1 << 31}, {Minus: 1<<32 - 1}, {Plus: 1}, {Plus: 1, Minus: 2}, {Plus: 2}, {Plus: 2, Minus: 12}, {Plus: 1 << 23}, {Plus: 1 << 31}, {Plus: 1<<32 - 1}} {
		l = append(l, api.Word{s}, api.Word{a, s}, api.Word{s, t})
	}
	return append(l, mix(31), mix(32), mix(33), append(mix(32), p), append(mix(31), t, p))
}

// P2.2
func TestEqual(tt *testing.T) {
	for _, v := range strange() {
		for _, w := range strange() {
			if got, want := word.Equal(v, w), code(v) == code(w); got != want {
				tt.Fatal(v, w, got)
			}
		}
	}
	if !word.Equal(nil, api.Word{}) || !word.Equal(api.Word{}, nil) || word.Equal(nil, api.Word{{}}) {
		tt.Error("the empty word")
	}
}

// P2.2
func TestOrder(tt *testing.T) {
	for _, v := range append(strange(), words(4)...) {
		for _, w := range strange() {
			if got, want := word.Order(v, w), strings.Compare(code(v), code(w)); got != want {
				tt.Fatal(v, w, got)
			}
			if got, want := word.Order(w, v), strings.Compare(code(w), code(v)); got != want {
				tt.Fatal(w, v, got)
			}
		}
	}
	if word.Order(nil, api.Word{}) != 0 || word.Order(api.Word{{}}, nil) != 1 || word.Order(nil, api.Word{{}}) != -1 {
		tt.Error("the empty word")
	}
	if word.Order(spell("pat"), spell("pa")) != 1 || word.Order(spell("pa"), spell("pt")) != -1 || word.Order(spell("pa"), spell("pa")) != 0 {
		tt.Error("the document's examples")
	}
}

// places are places, and numbers around them, for words of n sounds.
func places(n int) []int {
	l := []int{minInt, -33, -1, n + 1, n + 2, 31, 32, 33, maxInt}
	for i := range n + 1 {
		l = append(l, i)
	}
	return l
}

// cutModel returns the sounds whose indexes are from x on and below y.
func cutModel(w api.Word, x, y int) api.Word {
	var r api.Word
	for i, s := range w {
		if i >= x && i < y {
			r = append(r, s)
		}
	}
	return r
}

// isPart reports whether x and y are places of a word of n sounds, in this order.
func isPart(n, x, y int) bool { return x >= 0 && x <= y && y <= n }

// P2.3
func TestCut(tt *testing.T) {
	for _, w := range append(words(4), mix(32), append(repeat(p, 31), t)) {
		for _, x := range places(len(w)) {
			for _, y := range places(len(w)) {
				want, e := cutModel(w, x, y), api.OK
				if !isPart(len(w), x, y) {
					want, e = nil, api.ErrRange
				}
				if r, err := word.Cut(w, x, y); !same(r, want) || err != e {
					tt.Fatal(w, x, y, r, err)
				}
			}
		}
	}
	if r, e := word.Cut(spell("pata"), 1, 3); !same(r, spell("at")) || e != api.OK {
		tt.Error("the document's example", r, e)
	}
	if r, e := word.Cut(spell("pata"), 2, 5); r != nil || e != api.ErrRange {
		tt.Error("the document's example", r, e)
	}
}

// P2.3
func TestCutErrors(tt *testing.T) {
	for k, x := range bad() {
		for _, part := range [][2]int{{0, 0}, {0, 1}, {0, len(x.w)}, {1, 0}, {-1, 2}, {0, 99}, {minInt, maxInt}, {maxInt, minInt}} {
			if r, e := word.Cut(x.w, part[0], part[1]); len(r) != 0 || e != x.e {
				tt.Fatal(k, part, r, e)
			}
		}
	}
}

// P2.3
func TestSplice(tt *testing.T) {
	for _, w := range append(words(3), mix(30), mix(32)) {
		for _, v := range append(words(2), mix(3), mix(31), mix(32)) {
			for _, x := range places(len(w)) {
				for _, y := range places(len(w)) {
					want, e := append(append(cutModel(w, 0, x), v...), cutModel(w, y, len(w))...), api.OK
					switch {
					case !isPart(len(w), x, y):
						want, e = nil, api.ErrRange
					case len(want) > 32:
						want, e = nil, api.ErrLong
					}
					if r, err := word.Splice(w, x, y, v); !same(r, want) || err != e {
						tt.Fatal(w, x, y, v, r, err)
					}
				}
			}
		}
	}
	if r, e := word.Splice(spell("pata"), 1, 3, spell("t")); !same(r, spell("pta")) || e != api.OK {
		tt.Error("the document's example", r, e)
	}
	if r, e := word.Splice(spell("pa"), 2, 2, spell("pa")); !same(r, spell("papa")) || e != api.OK {
		tt.Error("the document's example", r, e)
	}
}

// P2.3
func TestSpliceLimit(tt *testing.T) {
	for k, x := range []struct {
		w    api.Word
		a, b int
		v    api.Word
		want api.Word
		e    api.Errno
	}{
		{mix(32), 0, 0, nil, mix(32), api.OK},
		{mix(32), 0, 32, repeat(t, 32), repeat(t, 32), api.OK},
		{repeat(p, 31), 31, 31, api.Word{a}, append(repeat(p, 31), a), api.OK},
		{repeat(p, 32), 31, 32, api.Word{a}, append(repeat(p, 31), a), api.OK},
		{nil, 0, 0, mix(32), mix(32), api.OK},
		{mix(32), 32, 32, api.Word{a}, nil, api.ErrLong},
		{mix(32), 0, 0, api.Word{a}, nil, api.ErrLong},
		{mix(32), 5, 6, api.Word{a, a}, nil, api.ErrLong},
		{mix(32), 0, 31, mix(32), nil, api.ErrLong},
		{mix(1), 0, 0, mix(32), nil, api.ErrLong},
		{mix(32), 0, 33, mix(32), nil, api.ErrRange},
		{mix(32), 1, 0, mix(32), nil, api.ErrRange},
		{mix(32), -1, 0, mix(32), nil, api.ErrRange},
	} {
		if r, e := word.Splice(x.w, x.a, x.b, x.v); !same(r, x.want) || e != x.e {
			tt.Error(k, r, e)
		}
	}
}

// P2.3
func TestSpliceErrors(tt *testing.T) {
	parts := [][2]int{{0, 0}, {0, 1}, {1, 0}, {-1, 2}, {0, 99}, {minInt, maxInt}, {maxInt, minInt}}
	for k, x := range bad() {
		for _, part := range parts {
			for _, v := range append(odd(), nil, spell("pat"), mix(32)) {
				if r, e := word.Splice(x.w, part[0], part[1], v); len(r) != 0 || e != x.e {
					tt.Fatal("the word", k, part, v, r, e)
				}
			}
			for _, w := range []api.Word{nil, spell("pat"), mix(32)} {
				if r, e := word.Splice(w, part[0], part[1], x.w); len(r) != 0 || e != x.e {
					tt.Fatal("what is put in", k, part, w, r, e)
				}
			}
		}
	}
}

// P2.3
func TestReverse(tt *testing.T) {
	for _, w := range append(words(4), repeat(a, 32), mix(32), append(repeat(p, 31), t), api.Word{{}, p}) {
		var want api.Word
		for i := len(w); i > 0; i-- {
			want = append(want, w[i-1])
		}
		if r, e := word.Reverse(w); !same(r, want) || e != api.OK {
			tt.Error(w, r, e)
		}
	}
	for k, x := range bad() {
		if r, e := word.Reverse(x.w); len(r) != 0 || e != x.e {
			tt.Error(k, r, e)
		}
	}
}

// findModel returns the first place at which the code of v begins.
func findModel(w, v api.Word) int {
	for i := range len(w) + 1 {
		if strings.HasPrefix(code(w[i:]), code(v)) {
			return i
		}
	}
	return -1
}

// P2.4
func TestFind(tt *testing.T) {
	for _, w := range append(words(5), odd()...) {
		for _, v := range append(words(3), odd()...) {
			if got, want := word.Find(w, v), findModel(w, v); got != want {
				tt.Fatal(w, v, got)
			}
		}
	}
	for k, x := range []struct {
		w, v api.Word
		want int
	}{
		{spell("papa"), spell("ap"), 1}, {spell("papa"), spell("t"), -1}, {spell("papa"), nil, 0}, {nil, nil, 0}, {nil, spell("p"), -1},
		{spell("pa"), spell("pap"), -1}, {spell("papat"), spell("pat"), 2}, {spell("ppppa"), spell("pppa"), 1},
		{repeat(p, 200), append(repeat(p, 60), a), -1}, {append(repeat(p, 200), both), append(repeat(p, 60), both), 140}, {repeat(p, 60), repeat(p, 61), -1},
	} {
		if n := word.Find(x.w, x.v); n != x.want {
			tt.Error(k, n)
		}
	}
}

// countModel counts with a value for each of 24 features.
func countModel(w api.Word, cond api.Sound) int {
	values := func(s api.Sound) (v [24]string, valid bool) {
		valid = s.Plus < 1<<24 && s.Minus < 1<<24
		for f := range 24 {
			if s.Plus>>f%2 == 1 {
				v[f] += "+"
			}
			if s.Minus>>f%2 == 1 {
				v[f] += "-"
			}
			valid = valid && v[f] != "+-"
		}
		return v, valid
	}
	n := 0
	c, condValid := values(cond)
	for _, s := range w {
		v, ok := values(s)
		for f := range 24 {
			ok = ok && (c[f] == "" || c[f] == v[f])
		}
		if ok && condValid {
			n++
		}
	}
	return n
}

// P2.4
func TestCount(tt *testing.T) {
	conds := append([]api.Sound{{}, p, a, t, {Plus: 1}, {Plus: 2}, {Minus: 1}, {Minus: 5}, {Plus: 2, Minus: 1}, {Plus: 2, Minus: 4}, {Plus: 16}, {Plus: 1 << 23}, {Minus: 1 << 23}}, invalid()...)
	lists := append(append(words(4), odd()...), mix(1000), api.Word{{}, {}, {Plus: 1}, {Plus: 3}, {Plus: all}, {Minus: all}, {Plus: 1 << 23, Minus: 2}})
	for _, w := range lists {
		for _, cond := range conds {
			if got, want := word.Count(w, cond), countModel(w, cond); got != want {
				tt.Fatal(w, cond, got)
			}
		}
	}
	for _, s := range invalid() {
		if n := word.Count(api.Word{s, p, s}, api.Sound{}); n != 1 {
			tt.Error("a sound that is not valid", s, n)
		}
		if n := word.Count(api.Word{s, p, {}, {Plus: all}, {Minus: all}, s}, s); n != 0 {
			tt.Error("a condition that is not valid", s, n)
		}
	}
	if n := word.Count(spell("patata"), api.Sound{Plus: 2}); n != 3 {
		tt.Error("the stops of patata", n)
	}
}

// commonModel tries all lengths, the long ones first.
func commonModel(v, w api.Word) (int, int) {
	begin := min(len(v), len(w))
	for !same(v[:begin], w[:begin]) {
		begin--
	}
	v, w = v[begin:], w[begin:]
	end := min(len(v), len(w))
	for !same(v[len(v)-end:], w[len(w)-end:]) {
		end--
	}
	return begin, end
}

// P2.5
func TestCommon(tt *testing.T) {
	lists := append(append(words(4), odd()...), spell("patap"), spell("paap"), mix(31), mix(32), mix(33))
	for _, v := range lists {
		for _, w := range lists {
			x, y := word.Common(v, w)
			if m, n := commonModel(v, w); x != m || y != n {
				tt.Fatal(v, w, x, y)
			}
		}
	}
	for k, x := range []struct {
		v, w       api.Word
		begin, end int
	}{
		{spell("patap"), spell("paap"), 2, 2}, {spell("pa"), spell("pa"), 2, 0}, {spell("ppp"), spell("pp"), 2, 0}, {spell("apa"), spell("a"), 1, 0},
		{spell("tpa"), spell("apa"), 0, 2}, {spell("papa"), spell("pa"), 2, 0}, {nil, spell("pa"), 0, 0}, {nil, nil, 0, 0},
		{append(repeat(p, 50), both), append(repeat(p, 40), both), 40, 1},
	} {
		if m, n := word.Common(x.v, x.w); m != x.begin || n != x.end {
			tt.Error(k, m, n)
		}
	}
}

// left returns the codes of all lists that are left when sounds of w are left out.
func left(w api.Word) map[string]bool {
	m := map[string]bool{}
	for set := range 1 << len(w) {
		var v api.Word
		for i, s := range w {
			if set>>i%2 == 1 {
				v = append(v, s)
			}
		}
		m[code(v)] = true
	}
	return m
}

// P2.6
func TestInside(tt *testing.T) {
	short := append(words(4), api.Word{both}, api.Word{both, p}, api.Word{p, both}, api.Word{less24, plus24}, api.Word{{Plus: 2}})
	for _, w := range append(short, api.Word{p, both, both, p, plus24}, api.Word{{}, less24, {Plus: 2}, plus24}) {
		m := left(w)
		for _, v := range short {
			if got, want := word.Inside(v, w), m[code(v)]; got != want {
				tt.Fatal(v, w, got)
			}
		}
	}
	if !word.Inside(spell("pp"), spell("papa")) || word.Inside(spell("tp"), spell("pata")) {
		tt.Error("the document's examples")
	}
	if !word.Inside(nil, nil) || !word.Inside(nil, spell("p")) || word.Inside(spell("p"), nil) {
		tt.Error("the empty word")
	}
	if !word.Inside(repeat(t, 50), mix(200)) || word.Inside(repeat(t, 51), mix(200)) || !word.Inside(mix(200), mix(200)) {
		tt.Error("too long words")
	}
}

// runsModel asks of each part of a word whether it is a run.
func runsModel(w api.Word) [][2]int {
	var l [][2]int
	for x := range w {
		for y := x + 1; y <= len(w); y++ {
			run := same(w[x:y], repeat(w[x], y-x))
			run = run && (x == 0 || w[x-1] != w[x])
			run = run && (y == len(w) || w[y] != w[x])
			if run {
				l = append(l, [2]int{x, y})
			}
		}
	}
	return l
}

// P2.7
func TestRuns(tt *testing.T) {
	for _, w := range append(append(words(6), odd()...), mix(33), api.Word{{Plus: 2}, p, p, {Plus: 2}, {Plus: 2}, {Minus: 13}}) {
		if got := word.Runs(w); !slices.Equal(got, runsModel(w)) {
			tt.Error(w, got)
		}
	}
	if l := word.Runs(spell("ppatt")); !slices.Equal(l, [][2]int{{0, 2}, {2, 3}, {3, 5}}) {
		tt.Error("the document's example", l)
	}
	if l := word.Runs(nil); len(l) != 0 {
		tt.Error("the empty word", l)
	}
	if l := word.Runs(repeat(both, 100)); !slices.Equal(l, [][2]int{{0, 100}}) {
		tt.Error("a long run", l)
	}
}

// sortModel inserts the codes of words one by one.
func sortModel(l []api.Word) []string {
	var sorted []string
	for _, w := range l {
		i := 0
		for i < len(sorted) && sorted[i] < code(w) {
			i++
		}
		if i == len(sorted) || sorted[i] != code(w) {
			sorted = slices.Insert(sorted, i, code(w))
		}
	}
	return sorted
}

// P2.8
func TestSort(tt *testing.T) {
	r := rand.New(rand.NewSource(2))
	pool := append(words(4), mix(31), mix(32), repeat(p, 32), append(repeat(p, 31), a), api.Word{{}}, api.Word{{Plus: 2}}, api.Word{{Minus: 13}, p}, api.Word{{Plus: all}})
	for n := range 257 {
		var l []api.Word
		for range n {
			l = append(l, pool[r.Intn(1+r.Intn(len(pool)))])
		}
		if got, e := word.Sort(l); !slices.Equal(codes(got), sortModel(l)) || e != api.OK {
			tt.Error(n, got, e)
		}
	}
	if got, e := word.Sort(spellAll("pat a pa a")); !slices.Equal(codes(got), codes(spellAll("pa pat a"))) || e != api.OK {
		tt.Error("the document's example", got, e)
	}
	for _, l := range [][]api.Word{nil, {}} {
		if got, e := word.Sort(l); len(got) != 0 || e != api.OK {
			tt.Error("no words", got, e)
		}
	}
	if got, e := word.Sort([]api.Word{{}, nil, {}}); len(got) != 1 || len(got[0]) != 0 || e != api.OK {
		tt.Error("the empty word, as a nil slice and as an empty one", got, e)
	}
}

// P2.8
func TestSortMany(tt *testing.T) {
	pool := words(6)
	if got, e := word.Sort(pool[:256]); !slices.Equal(codes(got), sortModel(pool[:256])) || len(got) != 256 || e != api.OK {
		tt.Error("256 words", got, e)
	}
	for k, l := range map[string][]api.Word{
		"257 words":           pool[:257],
		"1000 words":          pool[:1000],
		"257 equal words":     slices.Repeat([]api.Word{spell("pa")}, 257),
		"257 empty words":     make([]api.Word, 257),
		"257, too long":       slices.Repeat([]api.Word{mix(33)}, 257),
		"257, not valid":      slices.Repeat([]api.Word{{both}}, 257),
		"257, the last alone": append(slices.Clone(pool[:256]), api.Word{both}),
	} {
		if got, e := word.Sort(l); len(got) != 0 || e != api.ErrMany {
			tt.Error(k, got, e)
		}
	}
}

// P2.8
func TestSortErrors(tt *testing.T) {
	for k, x := range bad() {
		for name, l := range map[string][]api.Word{
			"alone":        {x.w},
			"first":        {x.w, spell("pa"), mix(33), {both}},
			"last":         {spell("pa"), nil, mix(32), x.w},
			"last of 256":  append(slices.Repeat([]api.Word{spell("t")}, 255), x.w),
			"before long":  {spell("t"), x.w, repeat(a, 34)},
			"before sound": {spell("t"), x.w, {less24}},
		} {
			if got, e := word.Sort(l); len(got) != 0 || e != x.e {
				tt.Fatal(k, name, got, e)
			}
		}
	}
}

// P2.9
func TestPartsTogether(tt *testing.T) {
	for _, w := range append(words(4), mix(32), repeat(p, 32)) {
		for x := range len(w) + 1 {
			for y := x; y <= len(w); y++ {
				one, e1 := word.Cut(w, 0, x)
				two, e2 := word.Cut(w, x, y)
				three, e3 := word.Cut(w, y, len(w))
				if e1 != api.OK || e2 != api.OK || e3 != api.OK || !same(slices.Concat(one, two, three), w) {
					tt.Fatal("parts", w, x, y, one, two, three)
				}
				if r, e := word.Splice(w, x, y, two); !same(r, w) || e != api.OK {
					tt.Fatal("Splice of what Cut returned", w, x, y, r, e)
				}
			}
		}
		back, e1 := word.Reverse(w)
		again, e2 := word.Reverse(back)
		if e1 != api.OK || e2 != api.OK || !same(again, w) {
			tt.Error("Reverse of Reverse", w, back, again)
		}
	}
}

// P2.10
func TestTotalOrder(tt *testing.T) {
	lists := append(strange(), words(3)...)
	for _, v := range lists {
		for _, w := range lists {
			n := word.Order(v, w)
			if n < -1 || n > 1 || n != -word.Order(w, v) {
				tt.Fatal("not opposite", v, w, n)
			}
			if (n == 0) != word.Equal(v, w) {
				tt.Fatal("Order and Equal", v, w, n)
			}
		}
	}
	for _, u := range lists {
		for _, v := range lists {
			if word.Order(u, v) > 0 {
				continue
			}
			for _, w := range lists {
				if word.Order(v, w) <= 0 && word.Order(u, w) > 0 {
					tt.Fatal("not transitive", u, v, w)
				}
			}
		}
	}
}

// P2.10
func TestRunsTogether(tt *testing.T) {
	for _, w := range append(append(words(5), odd()...), mix(100), slices.Concat(repeat(p, 40), repeat(both, 40), repeat(t, 40))) {
		at := 0
		for _, r := range word.Runs(w) {
			if r[0] != at || r[1] <= r[0] || r[1] > len(w) {
				tt.Fatal("not one after the other", w, r)
			}
			if at > 0 && w[at-1] == w[at] {
				tt.Fatal("neighbours with equal sounds", w, r)
			}
			at = r[1]
		}
		if at != len(w) {
			tt.Error("not the whole word", w, at)
		}
	}
}

// P2.11
func TestPartsInside(tt *testing.T) {
	for _, w := range append(words(4), mix(32), repeat(p, 32), append(mix(20), repeat(a, 12)...)) {
		for x := range len(w) + 1 {
			for y := x; y <= len(w); y++ {
				part, e := word.Cut(w, x, y)
				if e != api.OK || !word.Inside(part, w) {
					tt.Fatal("not inside", w, x, y, part, e)
				}
				at := word.Find(w, part)
				if at < 0 || at > x || !same(w[at:at+len(part)], part) {
					tt.Fatal("not found", w, x, y, part, at)
				}
			}
		}
	}
	lists := append(words(3), api.Word{both}, api.Word{p, both}, api.Word{p, both, a}, spell("papata"), mix(40))
	for _, u := range lists {
		for _, v := range lists {
			if !word.Inside(u, v) {
				continue
			}
			for _, w := range lists {
				if word.Inside(v, w) && !word.Inside(u, w) {
					tt.Fatal("not transitive", u, v, w)
				}
			}
		}
	}
}

// R4: a slice's elements beyond its length are neither read nor written, and arguments are not changed.
func TestArgumentsStay(tt *testing.T) {
	base := spell("pataptaa")
	before := slices.Clone(base)
	w, v := base[:3], base[4:6]
	list := []api.Word{v, w, v, {both}}
	if n := word.Find(w, before[:4]); n != -1 {
		tt.Error("Find reads beyond the length", n)
	}
	if r, e := word.Cut(w, 1, 4); r != nil || e != api.ErrRange {
		tt.Error("Cut reads beyond the length", r, e)
	}
	if r, e := word.Splice(w, 0, 4, v); r != nil || e != api.ErrRange {
		tt.Error("Splice reads beyond the length", r, e)
	}
	word.Splice(w, 1, 1, v)
	word.Splice(w, 3, 3, v)
	word.Splice(w, 0, 0, before[:7])
	word.Splice(w, 0, 3, nil)
	word.Reverse(w)
	word.Cut(w, 0, 2)
	if r, e := word.Sort(list[:3]); !slices.Equal(codes(r), codes(spellAll("pat pt"))) || e != api.OK {
		tt.Error("Sort reads beyond the length", r, e)
	}
	word.Sort([]api.Word{v, w, v, base, w})
	word.Runs(w)
	if !slices.Equal(base, before) {
		tt.Error("sounds are changed", base)
	}
	if !slices.Equal(codes(list), codes([]api.Word{v, w, v, {both}})) {
		tt.Error("a list is changed", list)
	}
}

// overwrite changes all the memory of a word, also what is behind its length.
func overwrite(w api.Word) {
	w = w[:cap(w)]
	for i := range w {
		w[i] = api.Sound{Plus: 1 << 30}
	}
}

// R4: results share no memory with arguments.
func TestResultsAreNew(tt *testing.T) {
	w, v := spell("patap"), spell("at")
	results := map[string]func() (api.Word, api.Errno){
		"Cut":              func() (api.Word, api.Errno) { return word.Cut(w, 1, 3) },
		"Cut, all":         func() (api.Word, api.Errno) { return word.Cut(w, 0, 5) },
		"Cut, nothing":     func() (api.Word, api.Errno) { return word.Cut(w, 2, 2) },
		"Splice":           func() (api.Word, api.Errno) { return word.Splice(w, 1, 3, v) },
		"Splice, nothing":  func() (api.Word, api.Errno) { return word.Splice(w, 2, 2, nil) },
		"Splice, the end":  func() (api.Word, api.Errno) { return word.Splice(w, 3, 5, nil) },
		"Splice, no end":   func() (api.Word, api.Errno) { return word.Splice(w, 5, 5, nil) },
		"Splice, begin":    func() (api.Word, api.Errno) { return word.Splice(w, 0, 2, nil) },
		"Splice, all":      func() (api.Word, api.Errno) { return word.Splice(w, 0, 5, v) },
		"Splice, the word": func() (api.Word, api.Errno) { return word.Splice(w, 0, 0, w) },
		"Reverse":          func() (api.Word, api.Errno) { return word.Reverse(w) },
	}
	for k, f := range results {
		r, e := f()
		first := code(r)
		overwrite(r)
		if again, e2 := f(); e != api.OK || e2 != api.OK || code(again) != first || !same(w, spell("patap")) || !same(v, spell("at")) {
			tt.Error(k, e, e2, again, w, v)
		}
	}
	one, two := word.Runs(w), word.Runs(w)
	one[0] = [2]int{7, 8}
	if !slices.Equal(two, runsModel(w)) || !slices.Equal(word.Runs(w), runsModel(w)) {
		tt.Error("Runs", two)
	}
}

// R4: the words that Sort returns share no memory with its argument, nor with one another.
func TestSortIsNew(tt *testing.T) {
	base := spell("pataptta")
	l := []api.Word{base[4:6], base[:3], base[2:5], base, base[:3], base[:1], base[8:8], base[1:1]}
	want := sortModel(l)
	r, e := word.Sort(l)
	if !slices.Equal(codes(r), want) || e != api.OK {
		tt.Fatal(r, e)
	}
	for i := range r {
		before := codes(r)
		overwrite(r[i])
		after := codes(r)
		before[i], after[i] = "", ""
		if !slices.Equal(before, after) {
			tt.Error("words share memory", i)
		}
	}
	for i := range r {
		r[i] = nil
	}
	if again, e := word.Sort(l); !same(base, spell("pataptta")) || !slices.Equal(codes(again), want) || e != api.OK {
		tt.Error("memory of the argument is shared", base, again, e)
	}
}

// R1, R8: an error comes with nil; equal calls return equal results.
func TestZeroAndEqual(tt *testing.T) {
	for k, x := range bad() {
		c, e1 := word.Cut(x.w, 0, 0)
		s, e2 := word.Splice(x.w, 0, 0, nil)
		u, e3 := word.Splice(nil, 0, 0, x.w)
		r, e4 := word.Reverse(x.w)
		l, e5 := word.Sort([]api.Word{nil, x.w})
		if !slices.Equal([]api.Errno{e1, e2, e3, e4, e5}, slices.Repeat([]api.Errno{x.e}, 5)) {
			tt.Error(k, e1, e2, e3, e4, e5)
		}
		if c != nil || s != nil || u != nil || r != nil || l != nil {
			tt.Error("a result beside an error", k, c, s, u, r, l)
		}
	}
	w := spell("pataptta")
	list := []api.Word{w, w[1:], w[:2], w[1:], nil}
	first, e1 := word.Sort(list)
	second, e2 := word.Sort(list)
	if e1 != e2 || !slices.Equal(codes(first), codes(second)) {
		tt.Error("equal calls differ", first, e1, second, e2)
	}
}
