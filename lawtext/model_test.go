package lawtext_test

import (
	"fmt"
	"math/rand"
	"regexp"
	"slices"
	"strconv"
	"strings"

	"ablaut/api"
	"ablaut/inventory"
	"ablaut/law"
	"ablaut/pats"
)

// The features of the chapter's examples, and some whose names begin like one another.
var (
	three = []string{"voice", "stop", "vowel"}
	alike = []string{"a", "aa", "b", "a0", "a00", "c"}
)

var (
	p = api.Sound{Plus: 2, Minus: 5}
	b = api.Sound{Plus: 3, Minus: 4}
	a = api.Sound{Plus: 5, Minus: 2}

	zero    = api.Sound{}
	isStop  = api.Sound{Plus: 2}
	isVowel = api.Sound{Plus: 4}
	voiced  = api.Sound{Plus: 1}
)

var (
	empty = api.Pat{}
	begin = api.Pat{Kind: api.PatBegin}
	end   = api.Pat{Kind: api.PatEnd}
	vowel = sound(isVowel)
	stop  = sound(isStop)
	other = but(isVowel)
	any1  = sound(zero)
)

var modes = []int{api.ModeAll, api.ModeRight, api.ModeLeft}

func sound(is api.Sound) api.Pat { return api.Pat{Kind: api.PatSound, Is: is} }

func but(is api.Sound) api.Pat { return api.Pat{Kind: api.PatSound, Is: is, Not: true} }

func seq(l ...api.Pat) api.Pat { return api.Pat{Kind: api.PatSeq, L: l} }

func alt(l ...api.Pat) api.Pat { return api.Pat{Kind: api.PatAlt, L: l} }

func rep(least, most int, l ...api.Pat) api.Pat {
	return api.Pat{Kind: api.PatRep, Min: least, Max: most, L: l}
}

func times(n int, q api.Pat) []api.Pat { return slices.Repeat([]api.Pat{q}, n) }

// deep is a pattern of n nodes, each in the one before it.
func deep(n int, last api.Pat, kinds ...api.Pat) api.Pat {
	for i := range n - 1 {
		outer := kinds[i%len(kinds)]
		outer.L = []api.Pat{last}
		last = outer
	}
	return last
}

func list(s ...api.Sound) []api.Sound { return s }

func outs(l ...api.Out) []api.Out { return l }

// made returns an inventory with these features.
func made(feats []string) *inventory.Inv {
	v, e := inventory.New(feats)
	if e != api.OK {
		panic(e)
	}
	return v
}

// manyFeats are as many features as there can be, with names as long as they can be.
func manyFeats() []string {
	var l []string
	for f := range 24 {
		l = append(l, fmt.Sprintf("f%015d", f))
	}
	return l
}

// badInvs are inventories that are not valid.
func badInvs() []*inventory.Inv {
	copied := *made(three)
	return []*inventory.Inv{nil, {}, &copied}
}

// invalid are the kinds of sounds that are not valid.
func invalid() []api.Sound {
	return []api.Sound{
		{Plus: 1, Minus: 1}, {Plus: 3, Minus: 6}, {Plus: 1 << 23, Minus: 1 << 23},
		{Plus: 1 << 24}, {Minus: 1 << 24}, {Plus: 2, Minus: 1<<31 | 5}, {Plus: 1<<31 | 2, Minus: 5},
		{Plus: 1 << 24, Minus: 1 << 24}, {Plus: 1<<32 - 1, Minus: 1<<32 - 1},
	}
}

// badPats are patterns that are not valid, with their errors.
func badPats() (l []api.Pat, errs []api.Errno) {
	inItself := make([]api.Pat, 1)
	inItself[0] = seq()
	inItself[0].L = inItself
	for _, q := range []api.Pat{
		{Kind: 7}, {Kind: -1}, {Min: 1}, {Kind: api.PatBegin, Not: true}, {Kind: api.PatSound, Max: -1}, {Kind: api.PatSound, L: []api.Pat{empty}}, {Is: p},
		{Kind: api.PatSeq, Is: p}, {L: []api.Pat{empty}}, rep(0, -1), rep(0, 1, vowel, vowel), rep(2, 1, vowel), rep(0, 33, vowel), rep(33, -1, vowel), rep(-1, 0, vowel), rep(0, -2, vowel),
		seq(vowel, api.Pat{Kind: 9}), alt(seq(vowel), rep(3, 2, seq())),
	} {
		l, errs = append(l, q), append(errs, api.ErrArg)
	}
	for _, s := range invalid() {
		l = append(l, sound(s), but(s), seq(vowel, rep(0, 1, sound(s))))
		errs = append(errs, api.ErrSound, api.ErrSound, api.ErrSound)
	}
	for _, q := range []api.Pat{seq(times(40, empty)...), alt(times(40, vowel)...), seq(times(1000, vowel)...), deep(41, empty, seq()), deep(41, vowel, alt(), rep(0, -1)), inItself[0], seq(append(times(40, vowel), sound(invalid()[0]))...)} {
		l, errs = append(l, q), append(errs, api.ErrMany)
	}
	return l, errs
}

// The laws of the chapter's examples, and their texts.
func examples() ([]api.Law, []string) {
	return []api.Law{
		{Name: "voicing", Left: vowel, Right: vowel, If: list(isStop), Out: outs(api.Out{Set: voiced}), Mode: api.ModeAll},
		{Name: "apocope", Right: end, If: list(isVowel), Mode: api.ModeLeft},
		{Name: "swap", If: list(isStop, isVowel), Out: outs(api.Out{From: 1}, api.Out{From: 0}), Mode: api.ModeRight},
		{Name: "front", Left: begin, Right: stop, Out: outs(api.Out{From: -1, Set: api.Sound{Plus: 4, Minus: 2}}), Mode: api.ModeAll},
		{Name: "copy", If: list(isVowel, zero), Out: outs(api.Out{From: 0}, api.Out{From: 1, Clear: 2, Take: 1, Of: 0}), Mode: api.ModeAll},
	}, []string{
		"voicing: [+stop] > {1 +voice} / [+vowel]_[+vowel]",
		"apocope: [+vowel] << 0 / _$",
		"swap: [+stop][+vowel] >> {2}{1} / _",
		"front: 0 > {0 -stop +vowel} / ^_[+stop]",
		"copy: [+vowel][] > {1}{2 ~stop 1:voice} / _",
	}
}

// samePat reports whether two patterns, valid or not, have the same nodes.
func samePat(x, y api.Pat) bool {
	return x.Kind == y.Kind && x.Is == y.Is && x.Not == y.Not && x.Min == y.Min && x.Max == y.Max && slices.EqualFunc(x.L, y.L, samePat)
}

func sameLaw(x, y api.Law) bool {
	return x.Name == y.Name && x.Mode == y.Mode && slices.Equal(x.If, y.If) && slices.Equal(x.Out, y.Out) && samePat(x.Left, y.Left) && samePat(x.Right, y.Right)
}

// noLaw reports whether a law is the zero value.
func noLaw(l api.Law) bool { return sameLaw(l, api.Law{}) }

// duplicate returns a pattern that shares nothing with another one.
func duplicate(q api.Pat) api.Pat {
	d := q
	d.L = nil
	for _, r := range q.L {
		d.L = append(d.L, duplicate(r))
	}
	return d
}

func duplicateLaw(l api.Law) api.Law {
	l.Left, l.Right = duplicate(l.Left), duplicate(l.Right)
	l.If, l.Out = slices.Clone(l.If), slices.Clone(l.Out)
	return l
}

// change changes the nodes of a pattern in place, and puts another one behind each list.
func change(q *api.Pat) {
	for i := range q.L {
		change(&q.L[i])
	}
	_ = append(q.L, api.Pat{Kind: 99})
	q.Kind, q.Is, q.Not, q.Min, q.Max = 77, api.Sound{Plus: 77}, !q.Not, 77, 77
}

// changeLaw does the same with a law.
func changeLaw(l *api.Law) {
	change(&l.Left)
	change(&l.Right)
	for i := range l.If {
		l.If[i] = api.Sound{Plus: 77}
	}
	for i := range l.Out {
		l.Out[i] = api.Out{From: 77}
	}
	_, _ = append(l.If, api.Sound{Plus: 99}), append(l.Out, api.Out{From: 99})
}

// The model: what the chapter says, rule by rule.

// isNormal asks for the two conditions.
func isNormal(q api.Pat) bool {
	switch {
	case q.Kind == api.PatSeq && len(q.L) < 2:
		return false
	case q.Kind == api.PatSeq && slices.ContainsFunc(q.L, func(r api.Pat) bool { return r.Kind == api.PatSeq || r.Kind == api.PatEmpty }):
		return false
	case q.Kind == api.PatAlt && len(q.L) == 1:
		return false
	}
	return !slices.ContainsFunc(q.L, func(r api.Pat) bool { return !isNormal(r) })
}

// modelNormal applies single rules, the outermost one first, until none can be applied.
func modelNormal(q api.Pat) api.Pat {
	for {
		next, changed := rewrite(q)
		if !changed {
			return q
		}
		q = next
	}
}

func rewrite(q api.Pat) (api.Pat, bool) {
	switch {
	case q.Kind == api.PatSeq && len(q.L) == 0:
		return empty, true
	case (q.Kind == api.PatSeq || q.Kind == api.PatAlt) && len(q.L) == 1:
		return q.L[0], true
	}
	for i, r := range q.L {
		other, changed := []api.Pat(nil), true
		switch {
		case q.Kind == api.PatSeq && r.Kind == api.PatEmpty:
		case q.Kind == api.PatSeq && r.Kind == api.PatSeq:
			other = r.L
		default:
			r, changed = rewrite(r)
			other = []api.Pat{r}
		}
		if changed {
			q.L = slices.Concat(q.L[:i], other, q.L[i+1:])
			return q, true
		}
	}
	return q, false
}

func modelBundle(feats []string, s api.Sound) string {
	text := ""
	for f, name := range feats {
		if s.Plus>>f&1 == 1 {
			text += " +" + name
		}
		if s.Minus>>f&1 == 1 {
			text += " -" + name
		}
	}
	return strings.TrimPrefix(text, " ")
}

// modelPat writes a normal pattern.
func modelPat(feats []string, q api.Pat) string {
	var l []string
	for _, r := range q.L {
		l = append(l, modelPat(feats, r))
	}
	switch q.Kind {
	case api.PatSound:
		return map[bool]string{true: "!["}[q.Not] + map[bool]string{false: "["}[q.Not] + modelBundle(feats, q.Is) + "]"
	case api.PatBegin:
		return "^"
	case api.PatEnd:
		return "$"
	case api.PatSeq:
		return strings.Join(l, "")
	case api.PatAlt:
		if len(l) == 0 {
			return "!()"
		}
		return fmt.Sprintf("(%s)", strings.Join(l, "|"))
	case api.PatRep:
		if k := q.L[0].Kind; k == api.PatEmpty || k == api.PatSeq || k == api.PatRep {
			l[0] = "(" + l[0] + ")"
		}
		return l[0] + modelSign(q.Min, q.Max)
	}
	return ""
}

func modelSign(n, m int) string {
	text := fmt.Sprintf("{%d,%d}", n, m)
	if n == m {
		text = fmt.Sprintf("{%d}", n)
	}
	if m == -1 {
		text = fmt.Sprintf("{%d,}", n)
	}
	if short, ok := map[string]string{"{0,}": "*", "{1,}": "+", "{0,1}": "?"}[text]; ok {
		return short
	}
	return text
}

func modelOut(feats []string, o api.Out) string {
	text := fmt.Sprint("{", o.From+1)
	for f, name := range feats {
		if o.Clear>>f&1 == 1 {
			text += " ~" + name
		}
	}
	if set := modelBundle(feats, o.Set); set != "" {
		text += " " + set
	}
	for f, name := range feats {
		if o.Take>>f&1 == 1 {
			text += fmt.Sprint(" ", o.Of+1, ":", name)
		}
	}
	return text + "}"
}

// modelLaw writes a valid law.
func modelLaw(feats []string, l api.Law) string {
	conditions, results := "", ""
	for _, s := range l.If {
		conditions += "[" + modelBundle(feats, s) + "]"
	}
	for _, o := range l.Out {
		results += modelOut(feats, o)
	}
	if len(l.If) == 0 {
		conditions = "0"
	}
	if len(l.Out) == 0 {
		results = "0"
	}
	arrow := map[int]string{api.ModeAll: ">", api.ModeRight: ">>", api.ModeLeft: "<<"}[l.Mode]
	return fmt.Sprintf("%s: %s %s %s / %s_%s", l.Name, conditions, arrow, results, modelPat(feats, modelNormal(l.Left)), modelPat(feats, modelNormal(l.Right)))
}

// readBundle reads what is between brackets, which must be in order.
func readBundle(feats []string, text string) (s api.Sound, ok bool) {
	if text == "" {
		return s, true
	}
	last := -1
	for _, item := range strings.Split(text, " ") {
		if item == "" {
			return s, false
		}
		f := slices.Index(feats, item[1:])
		if f <= last {
			return s, false
		}
		last = f
		switch item[0] {
		case '+':
			s.Plus |= 1 << f
		case '-':
			s.Minus |= 1 << f
		default:
			return s, false
		}
	}
	return s, true
}

var (
	soundText   = regexp.MustCompile(`^(!?)\[([^][]*)\]`)
	signText    = regexp.MustCompile(`^(?:(\*)|(\+)|(\?)|\{(0|[1-9][0-9]?)\}|\{(0|[1-9][0-9]?),\}|\{(0|[1-9][0-9]?),(0|[1-9][0-9]?)\})$`)
	repeated    = regexp.MustCompile("([\uE000-\uF8FF])([*+?]|\\{[0-9,]*\\})")
	innerGroup  = regexp.MustCompile(`\(([^()]*)\)([*+?]|\{[0-9,]*\})?`)
	onlyPats    = regexp.MustCompile("^[\uE000-\uF8FF]*$")
	lawText     = regexp.MustCompile(`^([a-zA-Z0-9-]{1,24}): (0|(?:\[[^][]*\])+) (>|>>|<<) (0|(?:\{[^{}]*\})+) / ([^_]*)_([^_]*)$`)
	between     = regexp.MustCompile(`\[([^][]*)\]|\{([^{}]*)\}`)
	resultText  = regexp.MustCompile(`^([0-4])((?: ~[a-z0-9]+)*)((?: [+-][a-z0-9]+)*)((?: [1-4]:[a-z0-9]+)*)$`)
	shorterSign = []string{"{0,}", "{1,}", "{0,1}"}
)

// reading replaces what it has read by characters of the private range, each of which stands for a pattern: the sounds first, and then the innermost groups.
type reading struct {
	feats []string
	pats  []api.Pat
	wrong bool
}

func (m *reading) put(q api.Pat) string {
	m.pats = append(m.pats, q)
	return string(rune(0xE000 + len(m.pats) - 1))
}

func (m *reading) get(c string) api.Pat { return m.pats[[]rune(c)[0]-0xE000] }

// repeat reads a sign, which may not belong to every pattern.
func (m *reading) repeat(q api.Pat, text string, allowed bool) api.Pat {
	x := signText.FindStringSubmatch(text)
	if x == nil || !allowed || slices.Contains(shorterSign, text) {
		m.wrong = true
		return q
	}
	number := func(i int) int {
		n, _ := strconv.Atoi(x[i])
		return n
	}
	n, most := 0, -1
	switch {
	case x[1] != "":
	case x[2] != "":
		n = 1
	case x[3] != "":
		most = 1
	case x[4] != "":
		n, most = number(4), number(4)
	case x[5] != "":
		n = number(5)
	default:
		n, most = number(6), number(7)
		m.wrong = m.wrong || n == most
	}
	m.wrong = m.wrong || n > 32 || most > 32 || most != -1 && most < n
	return rep(n, most, q)
}

// flat reads a text without groups: what may be between two bars.
func (m *reading) flat(text string) api.Pat {
	text = repeated.ReplaceAllStringFunc(text, func(part string) string {
		x := repeated.FindStringSubmatch(part)
		q := m.get(x[1])
		return m.put(m.repeat(q, x[2], q.Kind != api.PatRep))
	})
	if !onlyPats.MatchString(text) {
		m.wrong = true
		return empty
	}
	var l []api.Pat
	for _, c := range text {
		l = append(l, m.get(string(c)))
	}
	switch len(l) {
	case 0:
		return empty
	case 1:
		return l[0]
	}
	return seq(l...)
}

func (m *reading) group(part string) string {
	x := innerGroup.FindStringSubmatch(part)
	var l []api.Pat
	for _, text := range strings.Split(x[1], "|") {
		l = append(l, m.flat(text))
	}
	q := alt(l...)
	if len(l) == 1 {
		q = l[0]
		if x[2] == "" || q.Kind != api.PatEmpty && q.Kind != api.PatSeq && q.Kind != api.PatRep {
			m.wrong = true
		}
	}
	if x[2] != "" {
		q = m.repeat(q, x[2], true)
	}
	return m.put(q)
}

// simple replaces what needs no brackets.
func (m *reading) simple(text string) string {
	made := ""
	for text != "" {
		x := soundText.FindStringSubmatch(text)
		switch {
		case x != nil:
			s, ok := readBundle(m.feats, x[2])
			m.wrong = m.wrong || !ok
			made += m.put(api.Pat{Kind: api.PatSound, Is: s, Not: x[1] == "!"})
			text = text[len(x[0]):]
		case strings.HasPrefix(text, "!()"):
			made += m.put(alt())
			text = text[3:]
		case text[0] == '^' || text[0] == '$':
			made += m.put(map[byte]api.Pat{'^': begin, '$': end}[text[0]])
			text = text[1:]
		default:
			m.wrong = m.wrong || text[0] >= 0x80
			made += text[:1]
			text = text[1:]
		}
	}
	return made
}

// readPat reads the text of a normal pattern.
func readPat(feats []string, text string) (api.Pat, bool) {
	m := &reading{feats: feats}
	text = m.simple(text)
	if m.wrong {
		return empty, false
	}
	for !m.wrong && innerGroup.MatchString(text) {
		text = innerGroup.ReplaceAllStringFunc(text, m.group)
	}
	q := m.flat(text)
	if m.wrong || pats.Size(q) > 40 {
		return empty, false
	}
	return q, true
}

// readOut reads what is between the brackets of a result.
func readOut(feats []string, text string) (o api.Out, ok bool) {
	x := resultText.FindStringSubmatch(text)
	if x == nil {
		return o, false
	}
	set := func(items string) (bits uint32) {
		last := -1
		for _, item := range strings.Fields(items) {
			f := slices.Index(feats, item[strings.IndexAny(item, "~:")+1:])
			ok = ok && f > last
			last = max(f, last)
			bits |= 1 << max(f, 0)
		}
		return bits
	}
	ok = true
	o.From, _ = strconv.Atoi(x[1])
	o.From--
	o.Clear, o.Take = set(x[2]), set(x[4])
	s, inOrder := readBundle(feats, strings.TrimPrefix(x[3], " "))
	o.Set = s
	for i, item := range strings.Fields(x[4]) {
		of, _ := strconv.Atoi(item[:1])
		ok = ok && (i == 0 || o.Of == of-1)
		o.Of = of - 1
	}
	return o, ok && inOrder
}

// readLaw reads the text of a law.
func readLaw(feats []string, text string) (api.Law, bool) {
	x := lawText.FindStringSubmatch(text)
	if x == nil {
		return api.Law{}, false
	}
	l := api.Law{Name: x[1], Mode: map[string]int{">": api.ModeAll, ">>": api.ModeRight, "<<": api.ModeLeft}[x[3]]}
	good := true
	for _, y := range between.FindAllStringSubmatch(x[2], -1) {
		s, ok := readBundle(feats, y[1])
		l.If, good = append(l.If, s), good && ok
	}
	for _, y := range between.FindAllStringSubmatch(x[4], -1) {
		o, ok := readOut(feats, y[2])
		l.Out, good = append(l.Out, o), good && ok
	}
	left, okLeft := readPat(feats, x[5])
	right, okRight := readPat(feats, x[6])
	l.Left, l.Right = left, right
	if !good || !okLeft || !okRight || law.Check(l) != api.OK {
		return api.Law{}, false
	}
	return l, true
}

// small are all patterns with some number of nodes: of each kind, with few sounds and few numbers of repetitions.
func small(n int) []api.Pat {
	var l []api.Pat
	if n == 1 {
		l = append(l, empty, begin, vowel, other)
	}
	for _, group := range groups(n - 1) {
		l = append(l, seq(group...), alt(group...))
		if len(group) == 1 {
			l = append(l, rep(0, -1, group...), rep(1, 1, group...), rep(0, 1, group...))
		}
	}
	return l
}

// groups are all lists of small patterns with some number of nodes together.
func groups(n int) [][]api.Pat {
	if n == 0 {
		return [][]api.Pat{nil}
	}
	var l [][]api.Pat
	for size := 1; size <= n; size++ {
		for _, first := range small(size) {
			for _, rest := range groups(n - size) {
				l = append(l, append([]api.Pat{first}, rest...))
			}
		}
	}
	return l
}

// allSmall are all small patterns of up to some number of nodes.
func allSmall(most int) []api.Pat {
	var l []api.Pat
	for n := 1; n <= most; n++ {
		l = append(l, small(n)...)
	}
	return l
}

// randomSound is a valid sound of some features.
func randomSound(r *rand.Rand, feats int) api.Sound {
	var s api.Sound
	for f := range feats {
		switch r.Intn(4) {
		case 0:
			s.Plus |= 1 << f
		case 1:
			s.Minus |= 1 << f
		}
	}
	return s
}

// randomPat is a valid pattern of exactly n nodes.
func randomPat(r *rand.Rand, feats, n int) api.Pat {
	if n == 1 {
		s := sound(randomSound(r, feats))
		s.Not = r.Intn(3) == 0
		return []api.Pat{empty, begin, end, seq(), alt(), s, s, s}[r.Intn(8)]
	}
	if r.Intn(3) == 0 {
		least := r.Intn(3)
		if r.Intn(4) == 0 {
			least = r.Intn(33)
		}
		most := min(32, least+[]int{0, 1, 2, 32}[r.Intn(4)])
		if r.Intn(3) == 0 {
			most = -1
		}
		return rep(least, most, randomPat(r, feats, n-1))
	}
	var l []api.Pat
	for rest := n - 1; rest > 0; {
		size := 1 + r.Intn(rest)
		l = append(l, randomPat(r, feats, size))
		rest -= size
	}
	if r.Intn(2) == 0 {
		return alt(l...)
	}
	return seq(l...)
}

// randomOut is a valid result for some number of conditions.
func randomOut(r *rand.Rand, feats, conditions int) api.Out {
	o := api.Out{From: r.Intn(conditions+1) - 1}
	for f := range feats {
		switch r.Intn(8) {
		case 0:
			o.Clear |= 1 << f
		case 1:
			o.Set.Plus |= 1 << f
		case 2:
			o.Set.Minus |= 1 << f
		case 3:
			if conditions > 0 {
				o.Take |= 1 << f
			}
		}
	}
	if o.Take != 0 {
		o.Of = r.Intn(conditions)
	}
	return o
}

// randomLaw is a valid law with patterns of up to some number of nodes.
func randomLaw(r *rand.Rand, feats, nodes int) api.Law {
	const bytes = "abcdefghijklmnopqrstuvwxyzABCDEFGHIJKLMNOPQRSTUVWXYZ0123456789-"
	l := api.Law{Left: randomPat(r, feats, 1+r.Intn(nodes)), Right: randomPat(r, feats, 1+r.Intn(nodes)), Mode: 1 + r.Intn(3)}
	for range 1 + r.Intn(24) {
		l.Name += string(bytes[r.Intn(len(bytes))])
	}
	for range r.Intn(5) {
		l.If = append(l.If, randomSound(r, feats))
	}
	for range r.Intn(7) {
		l.Out = append(l.Out, randomOut(r, feats, len(l.If)))
	}
	if len(l.If)+len(l.Out) == 0 {
		l.Out = outs(api.Out{From: -1})
	}
	return l
}

// pieces are what texts consist of, and what comes close to it.
func pieces(feats []string) []string {
	l := strings.Split("[ ] [] ! ![ ( ) () !() | || * + ? { } {} {2} {0} {1} {33} {1,} {0,} {0,1} {1,2} {02} , ^ $ _ / : ; > < 0 1 2 9 - ~ . a x Z \\", " ")
	l = append(l, " ", "  ", "", "\n", "\t", "\x00", "\xff", "é", " / ", ": ", " > ", " >> ", " << ", " ~")
	for _, name := range feats {
		l = append(l, name, "+"+name, "-"+name, "[+"+name+"]", " +"+name, " ~"+name, " 1:"+name, "1:"+name, "[-"+name+"]")
	}
	return l
}

// edited is a text after an edit or more.
func edited(r *rand.Rand, feats []string, text string) string {
	l := pieces(feats)
	for again := true; again; again = r.Intn(3) == 0 {
		x, y := r.Intn(len(text)+1), r.Intn(len(text)+1)
		x, y = min(x, y), max(x, y)
		piece := l[r.Intn(len(l))]
		switch r.Intn(6) {
		case 0:
			text = text[:x] + piece + text[x:]
		case 1:
			text = text[:x] + piece + text[min(x+1, len(text)):]
		case 2:
			text = text[:x] + text[min(x+1+r.Intn(3), len(text)):]
		case 3:
			text = text[:x] + text[y:]
		case 4:
			text = text[:y] + text[x:]
		case 5:
			z := x + r.Intn(y-x+1)
			text = text[:x] + text[z:y] + text[x:z] + text[y:]
		}
	}
	return text
}

// neighbours are all texts that differ from a text in one byte that is left out, put in, or another one, or by two bytes that have changed their places.
func neighbours(text string) []string {
	const bytes = "[]!()|*+?{},^$_/:><0123-~ avx\n\x00\xff.;"
	var l []string
	for i := range len(text) + 1 {
		for _, c := range []byte(bytes) {
			l = append(l, text[:i]+string([]byte{c})+text[i:])
			if i < len(text) {
				l = append(l, text[:i]+string([]byte{c})+text[i+1:])
			}
		}
		if i < len(text) {
			l = append(l, text[:i]+text[i+1:], text[:i]+text[i:i+1]+text[i:])
		}
		if i+1 < len(text) {
			l = append(l, text[:i]+text[i+1:i+2]+text[i:i+1]+text[i+2:])
		}
	}
	return l
}
