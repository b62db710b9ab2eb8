package notation_test

import (
	"math/rand"
	"slices"
	"strconv"
	"strings"
	"sync"
	"testing"

	"ablaut/api"
	"ablaut/inventory"
	"ablaut/notation"
)

// The features 0 (voice), 1 (stop), 2 (long), the symbols and the marks of the document's examples.
var (
	three = []string{"voice", "stop", "long"}

	t0   = api.Sound{Plus: 2, Minus: 1}
	s0   = api.Sound{Minus: 3}
	ts0  = api.Sound{Minus: 1}
	a0   = api.Sound{Plus: 1, Minus: 2}
	long = api.Sound{Plus: 4}

	four  = []api.Named{{Symbol: "t", S: t0}, {Symbol: "s", S: s0}, {Symbol: "ts", S: ts0}, {Symbol: "a", S: a0}}
	marks = []api.Mark{{Text: ":", Set: long}, {Text: "_", Clear: 1}}
)

// model is what notations are compared with: it reads by looking through lists, and changes sounds mark by mark.
type model struct {
	symbols []api.Named
	marks   []api.Mark
}

func with(s api.Sound, m api.Mark) api.Sound {
	gone := m.Clear | m.Set.Plus | m.Set.Minus
	return api.Sound{Plus: s.Plus&^gone | m.Set.Plus, Minus: s.Minus&^gone | m.Set.Minus}
}

// unit returns the bytes of the unit at the beginning of a text, and its sound; 0 if there is none.
func (m model) unit(text string) (int, api.Sound) {
	var best api.Named
	for _, x := range m.symbols {
		if strings.HasPrefix(text, x.Symbol) && len(x.Symbol) > len(best.Symbol) {
			best = x
		}
	}
	n, s := len(best.Symbol), best.S
	for behind := 0; n > 0 && behind < 4; behind++ {
		var longest api.Mark
		for _, x := range m.marks {
			if strings.HasPrefix(text[n:], x.Text) && len(x.Text) > len(longest.Text) {
				longest = x
			}
		}
		if longest.Text == "" {
			break
		}
		n, s = n+len(longest.Text), with(s, longest)
	}
	return n, s
}

func (m model) read(text string) (w api.Word, units []string, at int, e api.Errno) {
	for at = 0; text != "" && (at == 0 || at < len(text)); {
		if at > 0 && text[at] == '.' {
			at++
		}
		n, s := m.unit(text[at:])
		switch {
		case n == 0:
			return nil, nil, at, api.ErrForm
		case len(w) == 32:
			return nil, nil, at, api.ErrLong
		}
		w, units, at = append(w, s), append(units, text[at:at+n]), at+n
	}
	return w, units, 0, api.OK
}

// texts returns the texts of all sounds that have one.
func (m model) texts() map[api.Sound]string {
	behind := []string{""}
	for _, x := range m.marks {
		behind = append(behind, x.Text)
		for _, y := range m.marks {
			behind = append(behind, x.Text+y.Text)
		}
	}
	all := map[api.Sound]string{}
	for _, x := range m.symbols {
		for _, end := range behind {
			text := x.Symbol + end
			w, _, _, e := m.read(text)
			if e != api.OK || len(w) != 1 {
				continue
			}
			best, have := all[w[0]]
			if !have || len(text) < len(best) || len(text) == len(best) && text < best {
				all[w[0]] = text
			}
		}
	}
	return all
}

func (m model) print(texts map[api.Sound]string, w api.Word) (string, api.Errno) {
	text := ""
	for i, s := range w {
		next, ok := texts[s]
		if !ok {
			return "", api.ErrSound
		}
		if got, _, _, e := m.read(text + next); e != api.OK || !slices.Equal(got, w[:i+1]) {
			text += "."
		}
		text += next
	}
	return text, api.OK
}

// every is every valid sound of n features.
func every(n int) []api.Sound {
	l := []api.Sound{{}}
	for f := range n {
		for _, s := range slices.Clone(l) {
			l = append(l, api.Sound{Plus: s.Plus | 1<<f, Minus: s.Minus}, api.Sound{Plus: s.Plus, Minus: s.Minus | 1<<f})
		}
	}
	return l
}

// notValid are sounds that are not valid.
func notValid() []api.Sound {
	return []api.Sound{{Plus: 1, Minus: 1}, {Plus: 6, Minus: 4}, {Plus: 1 << 23, Minus: 1 << 23}, {Plus: 1 << 24}, {Minus: 1 << 24}, {Plus: 1 << 31}, {Minus: 1 << 31}, {Plus: 1<<32 - 1, Minus: 1<<32 - 1}}
}

// feats returns n different names of features.
func feats(n int) []string {
	var l []string
	for i := range n {
		l = append(l, "f"+strconv.Itoa(i))
	}
	return l
}

func inv(t *testing.T, names []string, symbols []api.Named) *inventory.Inv {
	t.Helper()
	v, e := inventory.New(names)
	if e != api.OK {
		t.Fatal("inventory.New", names, e)
	}
	for _, x := range symbols {
		if e := v.Add(x.Symbol, x.S); e != api.OK {
			t.Fatal("Add", x, e)
		}
	}
	return v
}

func create(t *testing.T, v *inventory.Inv, marks []api.Mark) *notation.Notation {
	t.Helper()
	n, e := notation.New(v, marks)
	if n == nil || e != api.OK {
		t.Fatal("New", marks, n, e)
	}
	return n
}

func (m model) create(t *testing.T, names []string) *notation.Notation {
	t.Helper()
	return create(t, inv(t, names, m.symbols), m.marks)
}

// example is the notation of the document's examples.
func example(t *testing.T) *notation.Notation {
	t.Helper()
	return model{four, marks}.create(t, three)
}

// invalid are notations that are nil, or that New did not make.
func invalid(t *testing.T) map[string]*notation.Notation {
	taken := *example(t)
	return map[string]*notation.Notation{"nil": nil, "zero": {}, "new": new(notation.Notation), "a copied struct": &taken}
}

// texts are all texts of at most n bytes of an alphabet.
func texts(alphabet string, n int) []string {
	l := []string{""}
	for from := 0; n > 0; n-- {
		to := len(l)
		for _, text := range l[from:to] {
			for _, c := range alphabet {
				l = append(l, text+string(c))
			}
		}
		from = to
	}
	return l
}

// checkRead compares how a text is read with the model.
func checkRead(t *testing.T, n *notation.Notation, m model, text string) {
	t.Helper()
	w, units, at, e := m.read(text)
	if got, place, err := n.Parse(text); !slices.Equal(got, w) || place != at || err != e {
		t.Fatalf("Parse %q: %v %v %v, not %v %v %v", text, got, place, err, w, at, e)
	}
	if got, place, err := n.Split(text); !slices.Equal(got, units) || place != at || err != e {
		t.Fatalf("Split %q: %q %v %v, not %q %v %v", text, got, place, err, units, at, e)
	}
}

// checkSame compares Normal and Same with the model.
func checkSame(t *testing.T, n *notation.Notation, m model, all map[api.Sound]string, text, other string) {
	t.Helper()
	w, _, _, e1 := m.read(text)
	v, _, _, e2 := m.read(other)
	normal, e := "", e1
	if e == api.OK {
		normal, e = m.print(all, w)
	}
	if got, err := n.Normal(text); got != normal || err != e {
		t.Fatalf("Normal %q: %q %v, not %q %v", text, got, err, normal, e)
	}
	if got := n.Same(text, other); got != (e1 == api.OK && e2 == api.OK && slices.Equal(w, v)) {
		t.Fatalf("Same %q %q: %v", text, other, got)
	}
}

// checkPrint compares Print with the model, and reads what was printed.
func checkPrint(t *testing.T, n *notation.Notation, m model, all map[api.Sound]string, w api.Word) {
	t.Helper()
	want, e := m.print(all, w)
	text, err := n.Print(w)
	if text != want || err != e {
		t.Fatalf("Print %v: %q %v, not %q %v", w, text, err, want, e)
	}
	if e != api.OK {
		return
	}
	if back, at, e := n.Parse(text); !slices.Equal(back, w) || at != 0 || e != api.OK {
		t.Fatalf("Parse of Print %v: %q %v %v %v", w, text, back, at, e)
	}
	if normal, e := n.Normal(text); normal != text || e != api.OK {
		t.Fatalf("Normal of Print %v: %q %q %v", w, text, normal, e)
	}
}

// models are notations of three features in which symbols and marks are beginnings of one another.
func models() map[string]model {
	sounds := every(3)
	named := func(symbols ...string) []api.Named {
		var l []api.Named
		for i, symbol := range symbols {
			l = append(l, api.Named{Symbol: symbol, S: sounds[(7*i+1)%27]})
		}
		return l
	}
	return map[string]model{
		"the example":   {four, marks},
		"nothing":       {},
		"no marks":      {named("t", "a", "ta", "tat"), nil},
		"no symbols":    {nil, marks},
		"long symbols":  {named("t", "ta", "tat", "tata", "a", "s"), marks},
		"no single one": {named("ta", "tas", "at", "sa"), marks},
		"long marks": {named("a", "t", "at"), []api.Mark{
			{Text: ":", Set: long}, {Text: "::", Set: api.Sound{Minus: 4}}, {Text: ":::", Clear: 4}, {Text: ":_", Set: api.Sound{Minus: 1}}, {Text: "_", Clear: 3},
		}},
		"no short mark": {named("a", "t"), []api.Mark{{Text: "::", Set: long}, {Text: ":_:", Clear: 7}, {Text: "_:", Clear: 4, Set: api.Sound{Minus: 3}}}},
		"read as others": {named("a", "t"), []api.Mark{
			{Text: ":", Set: api.Sound{Plus: 1}}, {Text: "_:_", Set: api.Sound{Plus: 2}}, {Text: ":_", Set: long}, {Text: "_", Set: api.Sound{Minus: 1}},
		}},
		"marks that change nothing": {named("a", "t"), []api.Mark{{Text: ":"}, {Text: "_", Clear: 7}}},
		"the zero sound":            {[]api.Named{{Symbol: "a"}, {Symbol: "t", S: t0}}, []api.Mark{{Text: ":", Clear: 7}, {Text: "_", Set: t0}}},
	}
}

// randomModel is a notation of n features with random symbols and marks.
func randomModel(r *rand.Rand, n int) model {
	var m model
	sounds := every(n)
	text := func(bytes string, most int) string {
		b := make([]byte, 1+r.Intn(most))
		for i := range b {
			b[i] = bytes[r.Intn(len(bytes))]
		}
		return string(b)
	}
	for range r.Intn(8) {
		x := api.Named{Symbol: text("at", 4), S: sounds[r.Intn(len(sounds))]}
		if !slices.ContainsFunc(m.symbols, func(y api.Named) bool { return x.Symbol == y.Symbol || x.S == y.S }) {
			m.symbols = append(m.symbols, x)
		}
	}
	for range r.Intn(7) {
		x := api.Mark{Text: text(":_'", 3), Set: sounds[r.Intn(len(sounds))]}
		x.Clear = uint32(r.Intn(1<<n)) &^ (x.Set.Plus | x.Set.Minus)
		if !slices.ContainsFunc(m.marks, func(y api.Mark) bool { return x.Text == y.Text }) {
			m.marks = append(m.marks, x)
		}
	}
	return m
}

// randomText is a text that is often read to its end.
func randomText(r *rand.Rand, m model) string {
	text := ""
	for range r.Intn(12) {
		switch k := r.Intn(20); {
		case k < 8 && len(m.symbols) > 0:
			text += m.symbols[r.Intn(len(m.symbols))].Symbol
		case k < 14 && len(m.marks) > 0:
			text += m.marks[r.Intn(len(m.marks))].Text
		case k < 19:
			text += "."
		default:
			text += string("at:_'x.\x00\xff"[r.Intn(9)])
		}
	}
	return text
}

// P4.1
func TestNew(t *testing.T) {
	v := inv(t, three, four)
	for _, l := range [][]api.Mark{
		nil, {}, marks, {marks[1], marks[0]}, {{Text: ":"}}, {{Text: "`"}},
		{{Text: ":::", Clear: 7}, {Text: "::", Set: api.Sound{Plus: 5, Minus: 2}}, {Text: ":", Clear: 3, Set: long}},
		{{Text: ":"}, {Text: "::"}, {Text: ":::"}, {Text: "_:"}, {Text: ":_"}},
		{{Text: "_", Clear: 1}, {Text: ":", Clear: 1}, {Text: "=", Clear: 1}},
		{{Text: "\"'`"}, {Text: "~^_"}, {Text: "=="}},
		many(31), many(32),
	} {
		if got := create(t, v, l).Marks(); !slices.Equal(got, l) {
			t.Error(got, l)
		}
	}
	empty := create(t, inv(t, nil, nil), []api.Mark{{Text: ":"}})
	if w, at, e := empty.Parse(""); len(w) != 0 || at != 0 || e != api.OK {
		t.Error("a notation without features", w, at, e)
	}
	whole := api.Mark{Text: "^", Clear: 0xffff00, Set: api.Sound{Plus: 0xf0, Minus: 0xf}}
	if got := create(t, inv(t, feats(24), nil), []api.Mark{whole}).Marks(); !slices.Equal(got, []api.Mark{whole}) {
		t.Error("all features", got)
	}
}

// many returns n marks with different texts.
func many(n int) []api.Mark {
	var l []api.Mark
	for _, text := range texts(":'\"~^_=`", 2)[1 : n+1] {
		l = append(l, api.Mark{Text: text, Set: long})
	}
	return l
}

// P4.1
func TestNewNames(t *testing.T) {
	v := inv(t, three, four)
	check := func(text string, good bool) {
		t.Helper()
		want := map[bool]api.Errno{true: api.OK, false: api.ErrName}[good]
		if n, e := notation.New(v, []api.Mark{{Text: "^_^"}, {Text: text}}); e != want || (n != nil) != good {
			t.Errorf("%q %v", text, e)
		}
	}
	for c := range 256 {
		x := string([]byte{byte(c)})
		good := c == ':' || c == '\'' || c == '"' || c == '~' || c == '^' || c == '_' || c == '=' || c == '`'
		for _, text := range []string{x, x + ":", ":" + x, x + "::", ":" + x + ":", "::" + x} {
			check(text, good)
		}
		check(":::"+x, false)
		check(x+":::", false)
	}
	for n := range 10 {
		check(strings.Repeat("=", n), n >= 1 && n <= 3)
	}
	for _, text := range []string{"", ".", "a", ":a", "a:", ": ", " :", ":a:", "´", "ː", "̃", "\xff", ":\x00", strings.Repeat(":", 1<<16)} {
		check(text, false)
	}
}

// P4.1
func TestNewArguments(t *testing.T) {
	for n := range 25 {
		v := inv(t, feats(n), nil)
		check := func(clear uint32, set api.Sound, good bool) {
			t.Helper()
			want := map[bool]api.Errno{true: api.OK, false: api.ErrArg}[good]
			if got, e := notation.New(v, []api.Mark{{Text: ":", Clear: clear, Set: set}}); e != want || (got != nil) != good {
				t.Error(n, clear, set, e)
			}
		}
		for f := range 32 {
			bit := uint32(1) << f
			check(bit, api.Sound{}, f < n)
			check(0, api.Sound{Plus: bit}, f < n)
			check(0, api.Sound{Minus: bit}, f < n)
			check(0, api.Sound{Plus: bit, Minus: bit}, false)
			check(bit, api.Sound{Plus: bit}, false)
			check(bit, api.Sound{Minus: bit}, false)
			check(bit, api.Sound{Plus: 1}, f > 0 && f < n)
			check(1, api.Sound{Minus: bit}, f > 0 && f < n)
			check(1|bit, api.Sound{Plus: 2}, f != 1 && f < n && n >= 2)
		}
		all := uint32(1)<<n - 1
		check(all, api.Sound{}, true)
		check(0, api.Sound{Plus: all}, true)
		check(0, api.Sound{Minus: all}, true)
		check(all, api.Sound{Plus: all}, n == 0)
		check(0, api.Sound{Plus: all, Minus: all}, n == 0)
		for _, s := range notValid() {
			check(0, s, false)
		}
	}
}

// P4.1
func TestNewErrors(t *testing.T) {
	v := inv(t, three, four)
	taken := *v
	good, name, arg := api.Mark{Text: ":", Set: long}, api.Mark{Text: "::::"}, api.Mark{Text: "_", Clear: 8}
	nameArg, argHave := api.Mark{Text: "", Clear: 8}, api.Mark{Text: ":", Set: api.Sound{Plus: 1, Minus: 1}}
	for k, x := range []struct {
		v *inventory.Inv
		l []api.Mark
		e api.Errno
	}{
		{nil, nil, api.ErrNil}, {nil, marks, api.ErrNil}, {nil, many(33), api.ErrNil}, {nil, []api.Mark{name}, api.ErrNil}, {nil, []api.Mark{arg}, api.ErrNil}, {nil, []api.Mark{good, good}, api.ErrNil},
		{new(inventory.Inv), marks, api.ErrNil}, {new(inventory.Inv), many(33), api.ErrNil}, {&taken, marks, api.ErrNil},
		{v, many(33), api.ErrMany}, {v, many(60), api.ErrMany}, {v, slices.Repeat([]api.Mark{good}, 33), api.ErrMany}, {v, slices.Repeat([]api.Mark{name}, 33), api.ErrMany}, {v, slices.Repeat([]api.Mark{arg}, 33), api.ErrMany},
		{v, append(many(32), name), api.ErrMany}, {v, append([]api.Mark{name}, many(32)...), api.ErrMany},
		{v, []api.Mark{name}, api.ErrName}, {v, []api.Mark{nameArg}, api.ErrName}, {v, []api.Mark{nameArg, nameArg}, api.ErrName}, {v, []api.Mark{name, arg}, api.ErrName}, {v, []api.Mark{name, good, good}, api.ErrName}, {v, append(many(31), name), api.ErrName},
		{v, []api.Mark{arg}, api.ErrArg}, {v, []api.Mark{arg, name}, api.ErrArg}, {v, []api.Mark{good, argHave}, api.ErrArg}, {v, []api.Mark{arg, good, good}, api.ErrArg}, {v, []api.Mark{good, argHave, good}, api.ErrArg}, {v, append(many(31), argHave), api.ErrArg},
		{v, []api.Mark{good, good}, api.ErrHave}, {v, []api.Mark{good, {Text: ":"}}, api.ErrHave}, {v, []api.Mark{good, marks[1], good}, api.ErrHave}, {v, []api.Mark{good, good, name}, api.ErrHave}, {v, []api.Mark{good, good, arg}, api.ErrHave},
		{v, append(many(31), many(31)[0]), api.ErrHave}, {v, append(many(31), many(31)[30]), api.ErrHave}, {v, slices.Repeat([]api.Mark{good}, 32), api.ErrHave},
	} {
		if n, e := notation.New(x.v, x.l); n != nil || e != x.e {
			t.Error(k, n, e, x.e)
		}
	}
}

// P4.1: what is added to the inventory after the notation was made does not matter.
func TestLater(t *testing.T) {
	v := inv(t, three, []api.Named{four[0], four[1], four[3]})
	n := create(t, v, marks)
	small := model{[]api.Named{four[0], four[1], four[3]}, marks}
	if e := v.Add("ts", ts0); e != api.OK {
		t.Fatal(e)
	}
	if e := v.Add("x", api.Sound{Plus: 7}); e != api.OK {
		t.Fatal(e)
	}
	for _, text := range texts("tsax:", 4) {
		checkRead(t, n, small, text)
	}
	if text, ok := n.Sound(ts0); text != "" || ok {
		t.Error("a sound that was added later", text, ok)
	}
	if text, e := n.Print(api.Word{t0, s0}); text != "ts" || e != api.OK {
		t.Error("a symbol that was added later", text, e)
	}
	if text, e := n.Print(api.Word{{Plus: 7}}); text != "" || e != api.ErrSound {
		t.Error("a sound that was added later", text, e)
	}
	if w, at, e := create(t, v, marks).Parse("tsx"); !slices.Equal(w, api.Word{ts0, {Plus: 7}}) || at != 0 || e != api.OK {
		t.Error("a notation that was made later", w, at, e)
	}
}

// P4.2
func TestParse(t *testing.T) {
	n := example(t)
	along := api.Sound{Plus: 5, Minus: 2}
	for text, want := range map[string]api.Word{
		"tsa": {ts0, a0}, "t.sa": {t0, s0, a0}, "a:t": {along, t0}, "": nil, "a": {a0}, "tts": {t0, ts0}, "tst": {ts0, t0}, "t.s.a": {t0, s0, a0}, "ts.s": {ts0, s0},
		"a_": {{Minus: 2}}, "a:_": {{Plus: 4, Minus: 2}}, "a_:": {{Plus: 4, Minus: 2}}, "a::": {along}, "a:_:_": {{Plus: 4, Minus: 2}}, "t:.s:": {{Plus: 6, Minus: 1}, {Plus: 4, Minus: 3}}, "a::::a": {along, a0}, "a::::.a": {along, a0},
	} {
		if w, at, e := n.Parse(text); !slices.Equal(w, want) || at != 0 || e != api.OK {
			t.Error(text, w, at, e)
		}
	}
	for text, place := range map[string]int{
		"xa": 0, "t.": 2, "t..s": 2, ".t": 0, ".": 0, "..": 0, ":": 0, "_": 0, ":a": 0, " ": 0, "a ": 1, " a": 0, "a.:": 2, "a.:a": 2, "a:.": 3, "a:.:": 3, "a::::": -1, "a:::::": 5, "a_____": 5, "a:_:_:": 5, "a::::_a": 5, "a'": 1, "aa'": 2,
		"T": 0, "ta\x00": 2, "é": 0, "aé": 1, "\xff": 0, "tsa.sx": 5, "ts.ax.": 4, "a\n": 1, "a,t": 1, "a.t.": 4,
	} {
		if w, at, e := n.Parse(text); place >= 0 && (len(w) != 0 || at != place || e != api.ErrForm) || place < 0 && e != api.OK {
			t.Errorf("%q %v %v %v", text, w, at, e)
		}
	}
}

// P4.2, P4.3: all short texts.
func TestReadAll(t *testing.T) {
	for name, m := range models() {
		n := m.create(t, three)
		for _, text := range texts("tas:_.", 6) {
			checkRead(t, n, m, text)
		}
		if t.Failed() {
			t.Fatal(name)
		}
	}
}

// P4.2, P4.3: the longest marks are read, at most four of them.
func TestReadMarks(t *testing.T) {
	m := models()["long marks"]
	n := m.create(t, three)
	for _, text := range texts(":_", 13) {
		checkRead(t, n, m, "a"+text)
		checkRead(t, n, m, "at"+text+"t")
	}
	if l, at, e := n.Split("a::::_::::" + "t"); !slices.Equal(l, []string{"a::::_::::", "t"}) || at != 0 || e != api.OK {
		t.Error(l, at, e)
	}
	if l, at, e := n.Split("a:::::::::::::"); len(l) != 0 || at != 13 || e != api.ErrForm {
		t.Error("four marks of three bytes, and one more", l, at, e)
	}
	if l, at, e := n.Split("a::::::::::::"); !slices.Equal(l, []string{"a::::::::::::"}) || at != 0 || e != api.OK {
		t.Error("four marks of three bytes", l, at, e)
	}
}

// P4.2, P4.3: words of MaxWord sounds, and of one more.
func TestReadLimit(t *testing.T) {
	m := model{four, marks}
	n := example(t)
	full := strings.Repeat("a", 32)
	dotted := strings.Repeat("ts:.", 32)
	for text, x := range map[string]struct {
		at int
		e  api.Errno
	}{
		full: {0, api.OK}, full + "a": {32, api.ErrLong}, full + ".a": {33, api.ErrLong}, full + "ts": {32, api.ErrLong}, full + ":": {0, api.OK}, full + "::::": {0, api.OK}, full + ":::::": {36, api.ErrForm}, full + ".": {33, api.ErrForm}, full + "..": {33, api.ErrForm}, full + ".x": {33, api.ErrForm}, full + "x": {32, api.ErrForm},
		full + "ax": {32, api.ErrLong}, full + "a.": {32, api.ErrLong}, full + "xa": {32, api.ErrForm}, full + "::a:": {34, api.ErrLong}, full + "::.a": {35, api.ErrLong}, full + "a:::::": {32, api.ErrLong}, "x" + full + "a": {0, api.ErrForm}, full[1:] + "x" + full: {31, api.ErrForm}, full[1:] + ":::::" + full: {35, api.ErrForm},
		dotted: {128, api.ErrForm}, dotted[:127]: {0, api.OK}, dotted + "a": {128, api.ErrLong}, dotted + "ts:.x": {128, api.ErrLong}, dotted + ".a": {128, api.ErrForm},
		strings.Repeat("t", 33): {32, api.ErrLong}, strings.Repeat("ts", 33): {64, api.ErrLong}, strings.Repeat("ts", 32): {0, api.OK}, strings.Repeat("a", 1<<20): {32, api.ErrLong}, strings.Repeat("a::::.", 1<<16): {192, api.ErrLong}, strings.Repeat(":", 1<<20): {0, api.ErrForm},
	} {
		if w, at, e := n.Parse(text); at != x.at || e != x.e || e == api.OK && len(w) != 32 || e != api.OK && len(w) != 0 {
			t.Errorf("%.150q %v %v %v", text, w, at, e)
		}
		checkRead(t, n, m, text)
		if text, e := n.Normal(text); e != x.e || (text == "") != (e != api.OK) {
			t.Error("Normal", text, e)
		}
	}
}

// P4.2, P4.3, P4.5, P4.6: random notations.
func TestReadRandom(t *testing.T) {
	r := rand.New(rand.NewSource(4))
	for range 300 {
		m := randomModel(r, 3)
		n, all := m.create(t, three), m.texts()
		for range 60 {
			text, other := randomText(r, m), randomText(r, m)
			checkRead(t, n, m, text)
			checkSame(t, n, m, all, text, other)
			if w, _, e := n.Parse(text); e == api.OK {
				if printed, e := n.Print(w); e == api.OK {
					checkSame(t, n, m, all, text, printed)
					checkSame(t, n, m, all, printed, text)
				}
			}
		}
	}
}

// P4.3
func TestSplit(t *testing.T) {
	n := example(t)
	for text, want := range map[string][]string{
		"t.sa:": {"t", "s", "a:"}, "tsa": {"ts", "a"}, "": nil, "a": {"a"}, "a::_:.a_": {"a::_:", "a_"}, "tts.ts": {"t", "ts", "ts"}, "t:s": {"t:", "s"},
	} {
		if l, at, e := n.Split(text); !slices.Equal(l, want) || at != 0 || e != api.OK {
			t.Error(text, l, at, e)
		}
	}
	for text, place := range map[string]int{"xa": 0, "t.": 2, "t..s": 2, ".t": 0, "a:::::": 5, "t.sa:x": 5} {
		if l, at, e := n.Split(text); len(l) != 0 || at != place || e != api.ErrForm {
			t.Error(text, l, at, e)
		}
	}
}

// P4.4
func TestSound(t *testing.T) {
	n := example(t)
	for text, s := range map[string]api.Sound{
		"t": t0, "s": s0, "ts": ts0, "a": a0, "a:": {Plus: 5, Minus: 2}, "ts:": {Plus: 4, Minus: 1}, "t_": {Plus: 2}, "ts_": {}, "t:": {Plus: 6, Minus: 1},
		// Several texts are the shortest: a_ and s_; t:_ and t_:; and so on.
		"a_": {Minus: 2}, "t:_": {Plus: 6}, "a:_": {Plus: 4, Minus: 2}, "ts:_": {Plus: 4},
	} {
		for range 2 {
			if got, ok := n.Sound(s); got != text || !ok {
				t.Error(s, text, got, ok)
			}
		}
	}
	for _, s := range append(notValid(), api.Sound{Plus: 1}, api.Sound{Plus: 3}, api.Sound{Minus: 4}, api.Sound{Plus: 7}, api.Sound{Plus: 8}, api.Sound{Plus: 1 << 23}) {
		for range 2 {
			if got, ok := n.Sound(s); got != "" || ok {
				t.Error("a sound without a text", s, got, ok)
			}
		}
	}
}

// P4.4: what the text of a sound is chosen from.
func TestSoundChoice(t *testing.T) {
	plus := func(set uint32) api.Sound { return api.Sound{Plus: set} }
	o := api.Named{Symbol: "o"}
	each := []api.Mark{{Text: "~", Set: plus(1)}, {Text: "^", Set: plus(2)}, {Text: "=", Set: plus(4)}}
	for k, x := range []struct {
		m    model
		s    api.Sound
		text string
	}{
		{model{[]api.Named{o}, each}, plus(2), "o^"},
		{model{[]api.Named{o}, each}, plus(6), "o=^"},
		{model{[]api.Named{o}, each}, plus(7), ""}, // Three marks would be needed.
		{model{[]api.Named{o, {Symbol: "ooo", S: plus(1)}}, each}, plus(1), "o~"},
		{model{[]api.Named{o, {Symbol: "oo", S: plus(1)}}, each}, plus(1), "oo"},
		{model{[]api.Named{o, {Symbol: "p", S: plus(3)}}, each}, plus(3), "p"},
		{model{[]api.Named{o, {Symbol: "P", S: plus(1)}}, each}, plus(3), "P^"},
		{model{[]api.Named{{Symbol: "b"}, {Symbol: "a", S: plus(1)}}, each}, plus(1), "a"},
		{model{[]api.Named{{Symbol: "oooo"}, {Symbol: "q", S: plus(3)}}, []api.Mark{{Text: "\"\"\"", Clear: 2}, {Text: "'", Clear: 1}}}, plus(1), "q\"\"\""},
		{model{[]api.Named{o}, []api.Mark{{Text: "===", Set: plus(3)}, {Text: "~", Set: plus(1)}, {Text: "_", Set: plus(2)}}}, plus(3), "o_~"},
		{model{[]api.Named{o}, []api.Mark{{Text: "^^", Set: plus(3)}, {Text: "~", Set: plus(1)}, {Text: "_", Set: plus(2)}}}, plus(3), "o^^"},
		{model{[]api.Named{o}, []api.Mark{{Text: "__", Set: plus(3)}, {Text: "~", Set: plus(1)}, {Text: "^", Set: plus(2)}}}, plus(3), "o^~"},
		// A mark may take away what is there, or what the mark before it has set.
		{model{[]api.Named{{Symbol: "o", S: plus(7)}}, []api.Mark{{Text: "~", Clear: 1}, {Text: "^", Clear: 2}}}, plus(4), "o^~"},
		{model{[]api.Named{o}, []api.Mark{{Text: "~", Set: plus(3)}, {Text: "^", Clear: 2}}}, plus(1), "o~^"},
		{model{[]api.Named{o}, []api.Mark{{Text: "~", Set: plus(3)}, {Text: "^", Clear: 1, Set: api.Sound{Minus: 2}}}}, api.Sound{Minus: 2}, "o^"},
		{model{[]api.Named{o}, []api.Mark{{Text: "~", Set: plus(3)}, {Text: "^", Set: api.Sound{Minus: 2}}}}, api.Sound{Plus: 1, Minus: 2}, "o~^"},
		// Two marks together may be another mark, or other ones, or not be read at all.
		{model{[]api.Named{o}, []api.Mark{{Text: "~", Set: plus(1)}, {Text: "^", Set: plus(2)}, {Text: "^~", Set: plus(4)}}}, plus(3), "o~^"},
		{model{[]api.Named{o}, []api.Mark{{Text: "~", Set: plus(1)}, {Text: "^", Set: plus(2)}, {Text: "^~", Set: plus(4)}, {Text: "~^", Set: plus(4)}}}, plus(3), ""},
		{model{[]api.Named{o}, []api.Mark{{Text: "~", Set: plus(1)}, {Text: "^=", Set: plus(2)}, {Text: "~^", Set: plus(4)}}}, plus(3), "o^=~"},
		{model{[]api.Named{o}, []api.Mark{{Text: "~", Set: plus(8)}, {Text: "^=\"", Set: plus(8)}, {Text: "~^", Set: plus(1)}, {Text: "=", Set: plus(2)}, {Text: "\"", Set: plus(4)}}}, plus(7), "o~^=\""},
	} {
		n, all := x.m.create(t, feats(4)), x.m.texts()
		if got, ok := n.Sound(x.s); got != x.text || ok != (x.text != "") || all[x.s] != x.text {
			t.Errorf("%v %v %q, not %q (%q in the model)", k, x.s, got, x.text, all[x.s])
		}
	}
}

// P4.4: all sounds, of notations in which much is a beginning of something else.
func TestSoundAll(t *testing.T) {
	r := rand.New(rand.NewSource(5))
	check := func(m model, name string) {
		n, all := m.create(t, three), m.texts()
		for _, s := range append(every(4), notValid()...) {
			want, have := all[s]
			if got, ok := n.Sound(s); got != want || ok != have {
				t.Fatalf("%v %v: %v %q %v, not %q", name, m, s, got, ok, want)
			}
		}
	}
	for name, m := range models() {
		check(m, name)
	}
	for k := range 300 {
		check(randomModel(r, 3), strconv.Itoa(k))
	}
}

// largest is a notation of 24 features with 256 symbols and 32 marks.
func largest() model {
	var m model
	for i := range 256 {
		m.symbols = append(m.symbols, api.Named{Symbol: "x" + strconv.Itoa(i), S: api.Sound{Plus: uint32(i), Minus: 255 &^ uint32(i)}})
	}
	for i, x := range many(32) {
		bit := uint32(1) << (8 + i/2)
		m.marks = append(m.marks, api.Mark{Text: x.Text, Clear: 1 << (i % 8), Set: []api.Sound{{Plus: bit}, {Minus: bit}}[i%2]})
	}
	return m
}

// P4.1, P4.4: the largest notation.
func TestLargest(t *testing.T) {
	m := largest()
	n, all := m.create(t, feats(24)), m.texts()
	if !slices.Equal(n.Marks(), m.marks) {
		t.Error(n.Marks())
	}
	var w api.Word
	for _, x := range m.symbols {
		if text, ok := n.Sound(x.S); text != x.Symbol || !ok {
			t.Error(x, text, ok)
		}
		if w = append(w, x.S); len(w) == 32 {
			checkPrint(t, n, m, all, w)
			w = nil
		}
	}
	r := rand.New(rand.NewSource(6))
	for range 20 {
		s := m.symbols[r.Intn(256)].S
		for range r.Intn(4) {
			s = with(s, m.marks[r.Intn(32)])
		}
		text, have := all[s]
		if got, ok := n.Sound(s); got != text || ok != have {
			t.Error(s, got, ok, text)
		}
	}
}

// P4.4
func TestPrint(t *testing.T) {
	n := example(t)
	along, slong := api.Sound{Plus: 5, Minus: 2}, api.Sound{Plus: 4, Minus: 3}
	tlong := api.Sound{Plus: 6, Minus: 1}
	for text, w := range map[string]api.Word{
		"t.sa": {t0, s0, a0}, "tsa": {ts0, a0}, "": nil, "a": {a0}, "t.s": {t0, s0}, "t.s:": {t0, slong}, "t:s": {tlong, s0}, "tts": {t0, ts0}, "tss": {ts0, s0}, "st": {s0, t0}, "a:t": {along, t0}, "tst.s": {ts0, t0, s0}, "t.st.s": {t0, s0, t0, s0}, "aa": {a0, a0}, "a:a:": {along, along},
	} {
		if got, e := n.Print(w); got != text || e != api.OK {
			t.Error(w, got, e, text)
		}
	}
	longer := model{[]api.Named{{Symbol: "a", S: a0}, {Symbol: "b", S: t0}, {Symbol: "c", S: s0}, {Symbol: "abc", S: ts0}, {Symbol: "cabc", S: long}}, marks}.create(t, three)
	for text, w := range map[string]api.Word{
		"ab.c": {a0, t0, s0}, "ab": {a0, t0}, "abc": {ts0}, "c.abc": {s0, ts0}, "cabc": {long}, "cab.c": {s0, a0, t0, s0}, "bc": {t0, s0}, "cab": {s0, a0, t0}, "abccabc": {ts0, long}, "abcabc": {ts0, ts0}, "ab:c": {a0, tlong, s0},
	} {
		if got, e := longer.Print(w); got != text || e != api.OK {
			t.Error(w, got, e, text)
		}
	}
}

// P4.4
func TestPrintErrors(t *testing.T) {
	n := example(t)
	none, bad := api.Sound{Plus: 7}, api.Sound{Plus: 1, Minus: 1}
	full := slices.Repeat(api.Word{a0}, 32)
	for k, x := range []struct {
		w api.Word
		e api.Errno
	}{
		{append(slices.Clone(full), a0), api.ErrLong}, {append(slices.Clone(full), bad), api.ErrLong}, {slices.Repeat(api.Word{bad}, 33), api.ErrLong}, {slices.Repeat(api.Word{none}, 1000), api.ErrLong},
		{api.Word{bad}, api.ErrSound}, {api.Word{a0, bad}, api.ErrSound}, {api.Word{none}, api.ErrSound}, {api.Word{a0, t0, none}, api.ErrSound}, {api.Word{none, a0}, api.ErrSound}, {api.Word{none, bad}, api.ErrSound}, {append(full[:31:31], none), api.ErrSound}, {append(full[:31:31], bad), api.ErrSound},
		{api.Word{{Plus: 8}}, api.ErrSound}, {api.Word{{Plus: 1 << 24}}, api.ErrSound},
	} {
		if text, e := n.Print(x.w); text != "" || e != x.e {
			t.Error(k, text, e, x.e)
		}
	}
	if text, e := n.Print(full); text != strings.Repeat("a", 32) || e != api.OK {
		t.Error("MaxWord sounds", text, e)
	}
	word := slices.Repeat(api.Word{t0, s0}, 16)
	if text, e := n.Print(word); text != "t."+strings.Repeat("st.", 15)+"s" || e != api.OK {
		t.Error("MaxWord sounds", text, e)
	}
}

// P4.4, P4.6
func TestPrintAll(t *testing.T) {
	r := rand.New(rand.NewSource(7))
	check := func(m model) {
		n, all := m.create(t, three), m.texts()
		var sounds []api.Sound
		for _, s := range every(3) {
			if _, ok := all[s]; ok || r.Intn(20) == 0 {
				sounds = append(sounds, s)
			}
		}
		for _, x := range sounds {
			checkPrint(t, n, m, all, api.Word{x})
			for _, y := range sounds {
				checkPrint(t, n, m, all, api.Word{x, y})
			}
		}
		for range 100 {
			var w api.Word
			for len(sounds) > 0 && len(w) < 32 && r.Intn(12) > 0 {
				w = append(w, sounds[r.Intn(len(sounds))])
			}
			checkPrint(t, n, m, all, w)
		}
	}
	for _, m := range models() {
		check(m)
	}
	for range 100 {
		check(randomModel(r, 3))
	}
}

// P4.5
func TestNormal(t *testing.T) {
	n := example(t)
	for text, want := range map[string]string{
		"t.a": "ta", "ta": "ta", "": "", "t.s": "t.s", "ts": "ts", "t.t.a": "tta", "a::": "a:", "s_": "a_", "t_:": "t:_", "a:_:_": "a:_", "ts.s": "tss", "s:.a.t": "s:at", "t.ts": "tts",
	} {
		if got, e := n.Normal(text); got != want || e != api.OK {
			t.Error(text, got, e, want)
		}
	}
	for text, want := range map[string]api.Errno{
		"x": api.ErrForm, ".": api.ErrForm, "t.": api.ErrForm, ".t": api.ErrForm, "a:::::": api.ErrForm, "t..s": api.ErrForm,
		strings.Repeat("a", 33): api.ErrLong, strings.Repeat("a", 33) + "x": api.ErrLong, "x" + strings.Repeat("a", 33): api.ErrForm,
	} {
		if got, e := n.Normal(text); got != "" || e != want {
			t.Error(text, got, e, want)
		}
	}
	plus := func(set uint32) api.Sound { return api.Sound{Plus: set} }
	three := model{[]api.Named{{Symbol: "o"}}, []api.Mark{{Text: "~", Set: plus(1)}, {Text: "^", Set: plus(2)}, {Text: "=", Set: plus(4)}}}.create(t, three)
	for text, x := range map[string]struct {
		want string
		e    api.Errno
	}{
		"o~^=": {"", api.ErrSound}, "oo~^=": {"", api.ErrSound}, "o~^=o": {"", api.ErrSound}, "o~^=x": {"", api.ErrForm}, "o~^=" + strings.Repeat("o", 32): {"", api.ErrLong}, "o~^": {"o^~", api.OK}, "o~~^~": {"o^~", api.OK}, "o.o=.o": {"oo=o", api.OK},
	} {
		if got, e := three.Normal(text); got != x.want || e != x.e {
			t.Error(text, got, e, x)
		}
	}
}

// P4.5
func TestSame(t *testing.T) {
	n := example(t)
	over := strings.Repeat("a", 33)
	for _, x := range []struct {
		a, b string
		same bool
	}{
		{"t.a", "ta", true}, {"ta", "ta", true}, {"", "", true}, {"a:", "a::", true}, {"s_", "a_", true}, {"t:_", "t_:", true}, {"t.t.a", "tta", true}, {over[1:], strings.Repeat(".a", 32)[1:], true},
		{"ts", "t.s", false}, {"ta", "at", false}, {"a", "aa", false}, {"", "a", false}, {"a", "a:", false},
		{"x", "x", false}, {".", ".", false}, {"", ".", false}, {"x", "", false}, {"", "x", false}, {"t.", "t", false}, {"t", "t.", false}, {"a:::::", "a::::", false}, {over, over, false}, {over, over[1:], false},
	} {
		if n.Same(x.a, x.b) != x.same || n.Same(x.b, x.a) != x.same {
			t.Error(x)
		}
	}
	// Sounds without a text are compared, too.
	three := model{[]api.Named{{Symbol: "o"}}, []api.Mark{{Text: "~", Clear: 1}, {Text: "^", Set: api.Sound{Plus: 2}}, {Text: "=", Set: long}, {Text: "'", Set: api.Sound{Plus: 1}}}}.create(t, three)
	if !three.Same("o^='", "o'=^") || three.Same("o^='", "o^=") || three.Same("o^='~", "o^='") {
		t.Error("sounds without a text")
	}
}

// P4.5: all pairs of short texts.
func TestSameAll(t *testing.T) {
	m := models()["the example"]
	n, all := m.create(t, three), m.texts()
	for _, text := range texts("tsa:.", 3) {
		for _, other := range texts("tsa:.", 3) {
			checkSame(t, n, m, all, text, other)
		}
	}
}

// P4.6: a text and its units are the same word, and the units are the text without its points.
func TestUnits(t *testing.T) {
	r := rand.New(rand.NewSource(8))
	check := func(n *notation.Notation, text string) {
		units, _, e := n.Split(text)
		if e != api.OK {
			return
		}
		if strings.Join(units, "") != strings.ReplaceAll(text, ".", "") {
			t.Fatalf("%q %q", text, units)
		}
		joined := strings.Join(units, ".")
		if !n.Same(text, joined) {
			t.Fatalf("%q %q", text, joined)
		}
		if again, at, e := n.Split(joined); !slices.Equal(again, units) || at != 0 || e != api.OK {
			t.Fatalf("%q %q %q %v %v", text, units, again, at, e)
		}
		if w, _, e := n.Parse(text); len(w) != len(units) || e != api.OK {
			t.Fatalf("%q %v %q %v", text, w, units, e)
		}
	}
	for _, m := range models() {
		n := m.create(t, three)
		for _, text := range texts("tas:_.", 5) {
			check(n, text)
		}
	}
	for range 200 {
		m := randomModel(r, 3)
		n := m.create(t, three)
		for range 50 {
			check(n, randomText(r, m))
		}
	}
}

// R2: notations that are not valid.
func TestNil(t *testing.T) {
	for k, n := range invalid(t) {
		for _, text := range []string{"", "a", "tsa", "x", "t.", ".", strings.Repeat("a", 33)} {
			if w, at, e := n.Parse(text); len(w) != 0 || at != 0 || e != api.ErrNil {
				t.Error(k, "Parse", text, w, at, e)
			}
			if l, at, e := n.Split(text); len(l) != 0 || at != 0 || e != api.ErrNil {
				t.Error(k, "Split", text, l, at, e)
			}
			if got, e := n.Normal(text); got != "" || e != api.ErrNil {
				t.Error(k, "Normal", text, got, e)
			}
			if n.Same(text, text) || n.Same("a", text) {
				t.Error(k, "Same", text)
			}
		}
		for _, w := range []api.Word{nil, {a0}, {{Plus: 7}}, {{Plus: 1, Minus: 1}}, make(api.Word, 33)} {
			if text, e := n.Print(w); text != "" || e != api.ErrNil {
				t.Error(k, "Print", w, text, e)
			}
		}
		for _, s := range append(every(3), notValid()...) {
			if text, ok := n.Sound(s); text != "" || ok {
				t.Error(k, "Sound", s, text, ok)
			}
		}
		if l := n.Marks(); len(l) != 0 {
			t.Error(k, "Marks", l)
		}
	}
}

// R4: arguments are neither changed nor kept, nor read beyond their length; results are new memory.
func TestMemory(t *testing.T) {
	m := model{four, marks}
	v := inv(t, three, four)
	base := []api.Mark{marks[0], marks[1], {Text: ":"}, {Text: "bad"}}
	n := create(t, v, base[:2])
	if !slices.Equal(v.Sounds(), four) || !slices.Equal(base, []api.Mark{marks[0], marks[1], {Text: ":"}, {Text: "bad"}}) {
		t.Error("changed", v.Sounds(), base)
	}
	base[0], base[1] = api.Mark{Text: "~", Set: t0}, api.Mark{Text: ":", Set: s0}
	check := func() {
		t.Helper()
		if !slices.Equal(n.Marks(), marks) {
			t.Fatal(n.Marks())
		}
		for _, text := range []string{"tsa", "t.sa:", "a_", "a~", "t.", "a:::::"} {
			checkRead(t, n, m, text)
		}
		checkPrint(t, n, m, m.texts(), api.Word{t0, s0, a0, {Minus: 2}})
	}
	check()
	got := n.Marks()
	for i := range got[:cap(got)] {
		got[:cap(got)][i] = api.Mark{Text: "=", Clear: 7}
	}
	check()
	w, _, _ := n.Parse("t.sa:")
	l, _, _ := n.Split("t.sa:")
	for i := range w[:cap(w)] {
		w[:cap(w)][i] = api.Sound{Plus: 1, Minus: 1}
	}
	for i := range l[:cap(l)] {
		l[:cap(l)][i] = "spoiled"
	}
	check()
	long := api.Word{t0, s0, a0, {Plus: 1, Minus: 1}, a0}
	if text, e := n.Print(long[:3]); text != "t.sa" || e != api.OK || !slices.Equal(long, api.Word{t0, s0, a0, {Plus: 1, Minus: 1}, a0}) {
		t.Error("Print", text, e, long)
	}
	check()
}

// R8: what was asked before does not matter, and notations made by the same calls answer alike.
func TestIndependent(t *testing.T) {
	asked, fresh := example(t), example(t)
	for range 3 {
		for _, s := range every(4) {
			asked.Sound(s)
		}
		for _, text := range texts("tsa:_.", 3) {
			asked.Parse(text)
			asked.Normal(text)
		}
	}
	for _, s := range every(4) {
		text, ok := asked.Sound(s)
		if got, have := fresh.Sound(s); got != text || have != ok {
			t.Error(s, text, ok, got, have)
		}
	}
	other := create(t, inv(t, three, four), []api.Mark{{Text: ":", Set: api.Sound{Minus: 4}}})
	if text, ok := other.Sound(api.Sound{Plus: 5, Minus: 2}); text != "" || ok {
		t.Error("a text of another notation", text, ok)
	}
}

// R8: questions that are asked at the same time are answered as always.
func TestTogether(t *testing.T) {
	m := model{four, marks}
	n, all := m.create(t, three), m.texts()
	var group sync.WaitGroup
	for k := range 8 {
		group.Go(func() {
			for i := range every(3) {
				s := every(3)[(i+3*k)%27]
				want, have := all[s]
				if text, ok := n.Sound(s); text != want || ok != have {
					t.Error(s, text, ok)
				}
				if text, e := n.Normal("t.s.a:_:"); text != "t.sa:_" || e != api.OK {
					t.Error(text, e)
				}
			}
		})
	}
	group.Wait()
}
