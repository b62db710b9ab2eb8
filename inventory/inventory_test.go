package inventory_test

import (
	"math/rand"
	"slices"
	"strconv"
	"strings"
	"testing"

	"ablaut/api"
	"ablaut/inventory"
)

// The features 0 (voice), 1 (stop), 2 (vowel).
var (
	p  = api.Sound{Plus: 2, Minus: 5}
	b  = api.Sound{Plus: 3, Minus: 4}
	a  = api.Sound{Plus: 5, Minus: 2}
	ph = api.Sound{Plus: 2, Minus: 1}
	ah = api.Sound{Plus: 4}

	three = []string{"voice", "stop", "vowel"}
)

// foreign are sounds that do not belong to an inventory with n features: not valid ones, and ones with a feature that is none of its.
func foreign(n int) []api.Sound {
	l := []api.Sound{
		{Plus: 1, Minus: 1}, {Plus: 6, Minus: 4}, {Plus: 1 << 23, Minus: 1 << 23},
		{Plus: 1 << 24}, {Minus: 1 << 24}, {Plus: 1 << 31}, {Minus: 1 << 31},
		{Plus: 1 << 24, Minus: 1 << 24}, {Plus: 1<<32 - 1}, {Minus: 1<<32 - 1}, {Plus: 1<<32 - 1, Minus: 1<<32 - 1},
	}
	for f := n; f < 32; f++ {
		bit := uint32(1) << f
		l = append(l, api.Sound{Plus: bit}, api.Sound{Minus: bit}, api.Sound{Plus: bit, Minus: bit})
	}
	return l
}

// every is every sound that belongs to an inventory with n features.
func every(n int) []api.Sound {
	l := []api.Sound{{}}
	for f := range n {
		for _, s := range slices.Clone(l) {
			l = append(l, api.Sound{Plus: s.Plus | 1<<f, Minus: s.Minus}, api.Sound{Plus: s.Plus, Minus: s.Minus | 1<<f})
		}
	}
	return l
}

// number returns n different names of features.
func number(n int) []string {
	var l []string
	for i := range n {
		l = append(l, "f"+strconv.Itoa(i))
	}
	return l
}

func create(t *testing.T, feats ...string) *inventory.Inv {
	t.Helper()
	v, e := inventory.New(feats)
	if v == nil || e != api.OK {
		t.Fatal("New", feats, v, e)
	}
	return v
}

func add(t *testing.T, v *inventory.Inv, symbol string, s api.Sound) {
	t.Helper()
	if e := v.Add(symbol, s); e != api.OK {
		t.Fatal("Add", symbol, s, e)
	}
}

// example is the inventory of the document's examples.
func example(t *testing.T) *inventory.Inv {
	t.Helper()
	v := create(t, three...)
	add(t, v, "p", p)
	add(t, v, "a", a)
	add(t, v, "ph", ph)
	return v
}

// full returns an inventory of six features with 256 sounds, s0 and so on.
func full(t *testing.T) *inventory.Inv {
	t.Helper()
	v := create(t, number(6)...)
	for i, s := range every(6)[:256] {
		add(t, v, "s"+strconv.Itoa(i), s)
	}
	return v
}

// invalid are inventories that are nil, or that New and Copy did not make.
func invalid(t *testing.T) map[string]*inventory.Inv {
	taken := *example(t)
	return map[string]*inventory.Inv{"nil": nil, "zero": {}, "new": new(inventory.Inv), "a copied struct": &taken}
}

// strange are texts that are in few inventories, or in none, as symbols or as names of features.
func strange() []string {
	return []string{"", " ", "p ", " p", "P", "pp", "h", "x", "p.", "\x00", "p\x00", "ph\x00", "é", "voice", "Voice", "voic", "voices", "tone", "+voice", "0", strings.Repeat("p", 1000)}
}

// same checks everything that can be asked of an inventory against the features and the sounds that it should have.
func same(t *testing.T, v *inventory.Inv, feats []string, sounds []api.Named) {
	t.Helper()
	if got := v.Feats(); !slices.Equal(got, feats) {
		t.Fatal("Feats", got, feats)
	}
	for f, name := range feats {
		if got, ok := v.Feat(name); got != f || !ok {
			t.Fatal("Feat", name, got, ok)
		}
	}
	if got := v.Sounds(); !slices.Equal(got, sounds) || v.Len() != len(sounds) {
		t.Fatal("Sounds", got, v.Len(), sounds)
	}
	for _, x := range sounds {
		if s, ok := v.Sound(x.Symbol); s != x.S || !ok {
			t.Fatal("Sound", x, s, ok)
		}
		if symbol, ok := v.Symbol(x.S); symbol != x.Symbol || !ok {
			t.Fatal("Symbol", x, symbol, ok)
		}
	}
	for _, x := range strange() {
		if f, ok := v.Feat(x); !slices.Contains(feats, x) && (f != 0 || ok) {
			t.Fatal("Feat of a name that is none", x, f, ok)
		}
		if s, ok := v.Sound(x); !slices.ContainsFunc(sounds, func(n api.Named) bool { return n.Symbol == x }) && (s != (api.Sound{}) || ok) {
			t.Fatal("Sound of a symbol that is none", x, s, ok)
		}
	}
	for _, s := range append(every(3), foreign(len(feats))...) {
		if symbol, ok := v.Symbol(s); !slices.ContainsFunc(sounds, func(n api.Named) bool { return n.S == s }) && (symbol != "" || ok) {
			t.Fatal("Symbol of a sound that was not added", s, symbol, ok)
		}
	}
}

// P3.1
func TestNew(t *testing.T) {
	for _, feats := range [][]string{
		nil, {}, {"a"}, {"z9"}, three, {"vowel", "stop", "voice"}, {"a", "aa", "a0", "a00"},
		number(23), number(24), {"abcdefghijklmnop"}, {"q123456789012345", "q12345678901234"},
	} {
		v, e := inventory.New(feats)
		if v == nil || e != api.OK {
			t.Fatal(feats, v, e)
		}
		same(t, v, feats, nil)
	}
	v := create(t, number(24)...)
	for i := range 24 {
		if f, ok := v.Feat("f" + strconv.Itoa(i)); f != i || !ok {
			t.Error("the number of a feature", i, f, ok)
		}
	}
	if f, ok := v.Feat("f24"); f != 0 || ok {
		t.Error("no such feature", f, ok)
	}
}

// P3.1
func TestNewNames(t *testing.T) {
	letter := func(c int) bool { return c >= 'a' && c <= 'z' }
	digit := func(c int) bool { return c >= '0' && c <= '9' }
	check := func(name string, good bool) {
		t.Helper()
		want := map[bool]api.Errno{true: api.OK, false: api.ErrName}[good]
		if v, e := inventory.New([]string{"first", name}); e != want || (v != nil) != good {
			t.Errorf("%q %v %v", name, v, e)
		}
	}
	for c := range 256 {
		x := string([]byte{byte(c)})
		check(x, letter(c))
		check(x+"a", letter(c))
		check("a"+x, letter(c) || digit(c))
		check("ab"+x+"cd", letter(c) || digit(c))
		check(strings.Repeat("a", 15)+x, letter(c) || digit(c))
		check(x+strings.Repeat("1", 15), letter(c))
	}
	for n := range 40 {
		check(strings.Repeat("n", n), n >= 1 && n <= 16)
	}
	for _, name := range []string{"Voice", "voicE", "voice ", " voice", "+voice", "é", "aé", "v-o", "v_o", "0a", strings.Repeat("a", 1<<20)} {
		check(name, false)
	}
}

// P3.1
func TestNewErrors(t *testing.T) {
	long := strings.Repeat("a", 17)
	for k, x := range []struct {
		feats []string
		e     api.Errno
	}{
		{number(25), api.ErrMany}, {number(1000), api.ErrMany},
		{slices.Repeat([]string{"a"}, 25), api.ErrMany}, {slices.Repeat([]string{""}, 25), api.ErrMany}, {append(number(24), "Voice"), api.ErrMany},
		{[]string{"voice", "Voice"}, api.ErrName}, {[]string{"Voice"}, api.ErrName}, {[]string{""}, api.ErrName}, {[]string{"", ""}, api.ErrName}, {[]string{long}, api.ErrName},
		{[]string{"voice", "voice", "Voice"}, api.ErrName}, {[]string{"Voice", "voice", "voice"}, api.ErrName}, {[]string{"voice", "", "voice"}, api.ErrName},
		{append(number(23), "9"), api.ErrName}, {append([]string{"f1"}, append(number(22), long)...), api.ErrName},
		{[]string{"voice", "voice"}, api.ErrHave}, {[]string{"voice", "stop", "voice"}, api.ErrHave}, {[]string{"stop", "voice", "voice"}, api.ErrHave},
		{append(number(23), "f0"), api.ErrHave}, {append(number(23), "f22"), api.ErrHave}, {slices.Repeat([]string{"a"}, 24), api.ErrHave},
	} {
		if v, e := inventory.New(x.feats); v != nil || e != x.e {
			t.Error(k, v, e, x.e)
		}
	}
}

// P3.2
func TestAdd(t *testing.T) {
	v := create(t, three...)
	var want []api.Named
	for i, s := range every(3) {
		x := api.Named{Symbol: "s" + strconv.Itoa(26-i), S: s}
		add(t, v, x.Symbol, x.S)
		want = append(want, x)
		same(t, v, three, want)
	}
	none := create(t)
	add(t, none, "o", api.Sound{})
	same(t, none, nil, []api.Named{{Symbol: "o"}})
	if e := none.Add("q", api.Sound{Plus: 1}); e != api.ErrSound {
		t.Error("an inventory without features", e)
	}
	all := create(t, number(24)...)
	add(t, all, "A", api.Sound{Plus: 1<<24 - 1})
	add(t, all, "Z", api.Sound{Minus: 1<<24 - 1})
	add(t, all, "L", api.Sound{Plus: 1 << 23})
	same(t, all, number(24), []api.Named{{Symbol: "A", S: api.Sound{Plus: 1<<24 - 1}}, {Symbol: "Z", S: api.Sound{Minus: 1<<24 - 1}}, {Symbol: "L", S: api.Sound{Plus: 1 << 23}}})
}

// P3.2
func TestAddNames(t *testing.T) {
	check := func(symbol string, good bool) {
		t.Helper()
		want := map[bool]api.Errno{true: api.OK, false: api.ErrName}[good]
		if e := create(t, three...).Add(symbol, p); e != want {
			t.Errorf("%q %v", symbol, e)
		}
	}
	for c := range 256 {
		good := c >= 'a' && c <= 'z' || c >= 'A' && c <= 'Z' || c >= '0' && c <= '9' || c == '@' || c == '?' || c == '!' || c == '&' || c == '*' || c == '$' || c == '%'
		x := string([]byte{byte(c)})
		for _, symbol := range []string{x, x + "p", "p" + x, "p" + x + "p", x + "ppp", "ppp" + x, "pp" + x + "p"} {
			check(symbol, good)
		}
	}
	for n := range 20 {
		check(strings.Repeat("n", n), n >= 1 && n <= 4)
	}
	for symbol, good := range map[string]bool{"@?!&": true, "*$%0": true, "0": true, "@?!&*": false, "p.": false, "a:": false, "é": false, "p ": false, strings.Repeat("p", 1<<20): false} {
		check(symbol, good)
	}
}

// P3.2
func TestAddErrors(t *testing.T) {
	v := example(t)
	bad := api.Sound{Plus: 8}
	for k, x := range []struct {
		symbol string
		s      api.Sound
		e      api.Errno
	}{
		{"", b, api.ErrName}, {"p.", b, api.ErrName}, {"ppppp", b, api.ErrName}, {"", bad, api.ErrName}, {"p.", p, api.ErrName}, {"aaaaa", api.Sound{Plus: 1, Minus: 1}, api.ErrName},
		{"b", bad, api.ErrSound}, {"p", bad, api.ErrSound}, {"b", api.Sound{Minus: 8}, api.ErrSound}, {"p", api.Sound{Plus: 1, Minus: 1}, api.ErrSound},
		{"p", b, api.ErrHave}, {"q", p, api.ErrHave}, {"p", p, api.ErrHave}, {"p", a, api.ErrHave}, {"ph", b, api.ErrHave}, {"b", ph, api.ErrHave}, {"b", a, api.ErrHave},
	} {
		if e := v.Add(x.symbol, x.s); e != x.e {
			t.Error(k, x, e)
		}
		same(t, v, three, []api.Named{{Symbol: "p", S: p}, {Symbol: "a", S: a}, {Symbol: "ph", S: ph}})
	}
	for _, s := range foreign(3) {
		if e := v.Add("b", s); e != api.ErrSound {
			t.Error("a sound that does not belong to the inventory", s, e)
		}
	}
	for n := range 25 {
		w := create(t, number(n)...)
		for _, s := range foreign(n) {
			if e := w.Add("b", s); e != api.ErrSound {
				t.Error("features", n, s, e)
			}
		}
		if n > 0 {
			add(t, w, "b", api.Sound{Plus: 1 << (n - 1)})
		}
	}
}

// P3.2
func TestAddFull(t *testing.T) {
	v := full(t)
	all := v.Sounds()
	fresh := every(6)[256]
	if v.Len() != 256 || len(all) != 256 {
		t.Fatal(v.Len(), len(all))
	}
	for k, x := range []struct {
		symbol string
		s      api.Sound
		e      api.Errno
	}{
		{"new", fresh, api.ErrFull},
		{"s0", fresh, api.ErrHave}, {"s255", fresh, api.ErrHave}, {"new", all[0].S, api.ErrHave}, {"new", all[255].S, api.ErrHave}, {"s7", all[9].S, api.ErrHave},
		{"new", api.Sound{Plus: 64}, api.ErrSound}, {"s0", api.Sound{Plus: 1, Minus: 1}, api.ErrSound},
		{"new.", fresh, api.ErrName}, {"", all[0].S, api.ErrName}, {"fives", api.Sound{Plus: 64}, api.ErrName},
	} {
		if e := v.Add(x.symbol, x.s); e != x.e {
			t.Error(k, x, e)
		}
		same(t, v, number(6), all)
	}
	c := v.Copy()
	if e := c.Add("new", fresh); e != api.ErrFull {
		t.Error("a copy", e)
	}
}

// P3.2, P3.3, P3.10: a list of the sounds that were added is what an inventory is compared with.
func TestSequences(t *testing.T) {
	r := rand.New(rand.NewSource(3))
	symbols := []string{"p", "a", "ph", "P", "p@", "", "p.", "longs", "long", "0", "%"}
	sounds := append(every(2), api.Sound{Plus: 4}, api.Sound{Plus: 1, Minus: 3})
	for range 200 {
		v := create(t, "voice", "stop")
		var want []api.Named
		for range 30 {
			x := api.Named{Symbol: symbols[r.Intn(len(symbols))], S: sounds[r.Intn(len(sounds))]}
			var e api.Errno
			switch {
			case x.Symbol == "" || x.Symbol == "p." || x.Symbol == "longs":
				e = api.ErrName
			case x.S == api.Sound{Plus: 4} || x.S == api.Sound{Plus: 1, Minus: 3}:
				e = api.ErrSound
			case slices.ContainsFunc(want, func(y api.Named) bool { return x.Symbol == y.Symbol || x.S == y.S }):
				e = api.ErrHave
			default:
				want = append(want, x)
			}
			if got := v.Add(x.Symbol, x.S); got != e {
				t.Fatal(want, x, got, e)
			}
			same(t, v, []string{"voice", "stop"}, want)
		}
	}
}

// P3.3
func TestQuestions(t *testing.T) {
	v := example(t)
	same(t, v, three, []api.Named{{Symbol: "p", S: p}, {Symbol: "a", S: a}, {Symbol: "ph", S: ph}})
	if s, ok := v.Sound("ph"); s != ph || !ok {
		t.Error("Sound", s, ok)
	}
	if s, ok := v.Sound("pha"); s != (api.Sound{}) || ok {
		t.Error("a symbol and more", s, ok)
	}
	if symbol, ok := v.Symbol(b); symbol != "" || ok {
		t.Error("a sound that belongs to the inventory, but was not added", symbol, ok)
	}
	if symbol, ok := v.Symbol(api.Sound{}); symbol != "" || ok {
		t.Error("the zero sound", symbol, ok)
	}
	add(t, v, "o", api.Sound{})
	if symbol, ok := v.Symbol(api.Sound{}); symbol != "o" || !ok {
		t.Error("the zero sound, which was added", symbol, ok)
	}
	if s, ok := v.Sound("o"); s != (api.Sound{}) || !ok {
		t.Error("the symbol of the zero sound", s, ok)
	}
}

// bundles are all bundles of the features voice, stop and vowel, with the sounds for which they stand.
func bundles() map[string]api.Sound {
	all := map[string]api.Sound{"": {}}
	var extend func(text string, s api.Sound)
	extend = func(text string, s api.Sound) {
		for f, name := range three {
			bit := uint32(1) << f
			if (s.Plus|s.Minus)&bit != 0 {
				continue
			}
			for sign, value := range map[string]api.Sound{"+": {Plus: bit}, "-": {Minus: bit}} {
				longer := strings.TrimPrefix(text+" "+sign+name, " ")
				all[longer] = api.Sound{Plus: s.Plus | value.Plus, Minus: s.Minus | value.Minus}
				extend(longer, all[longer])
			}
		}
	}
	extend("", api.Sound{})
	return all
}

// checkBundle compares Bundle with the list of all bundles.
func checkBundle(t *testing.T, v *inventory.Inv, all map[string]api.Sound, text string) {
	t.Helper()
	want, good := all[text]
	s, e := v.Bundle(text)
	if good && (s != want || e != api.OK) || !good && (s != (api.Sound{}) || e != api.ErrForm) {
		t.Fatalf("%q %v %v", text, s, e)
	}
}

// P3.4
func TestBundle(t *testing.T) {
	v, all := create(t, three...), bundles()
	if len(all) != 79 {
		t.Fatal("the test's list is wrong", len(all))
	}
	for text := range all {
		checkBundle(t, v, all, text)
	}
	pieces := []string{" ", "+", "-", "voice", "stop", "vowel", "tone", "+voice", "-stop", " +vowel", " -voice", "- stop", "x"}
	texts := []string{""}
	for range 4 {
		for _, text := range slices.Clone(texts) {
			for _, piece := range pieces {
				texts = append(texts, text+piece)
			}
		}
		slices.Sort(texts)
		texts = slices.Compact(texts)
	}
	for _, text := range texts {
		checkBundle(t, v, all, text)
	}
}

// P3.4
func TestBundleForm(t *testing.T) {
	v := create(t, three...)
	for _, text := range []string{
		"+vowel  -stop", "+vowel -vowel", "+vowel +vowel", "-stop +vowel -stop", "+tone", "-tone", " ", "  ", "+", "-", "+ ", "+ vowel", "++vowel", "+-vowel", "+vowel+stop", "+vowel-stop",
		" +vowel", "+vowel ", " +vowel -stop", "+vowel -stop ", "vowel", "0vowel", "vowel+", "*vowel", "+Vowel", "+VOWEL", "+vowe", "+vowels", "+vowel\t-stop", "+vowel\n-stop", "+vowel\n", "+vowel,-stop",
		"+vowel\x00", "\x00", "+vowel\u00a0-stop", "\u2212stop", "+vowel -stop +tone", "+tone +vowel", "+vowel -stop +voice -stop", "+vowel  ", "+vowel -", "+vowel - stop",
		strings.Repeat("+vowel ", 100), strings.Repeat(" ", 1<<16), "+" + strings.Repeat("v", 1<<16), "+vowel" + strings.Repeat(" ", 1<<16),
	} {
		if s, e := v.Bundle(text); s != (api.Sound{}) || e != api.ErrForm {
			t.Errorf("%.40q %v %v", text, s, e)
		}
	}
	for c := range 256 {
		x := string([]byte{byte(c)})
		if _, e := v.Bundle(x + "stop"); (e == api.OK) != (c == '+' || c == '-') || e != api.OK && e != api.ErrForm {
			t.Errorf("the sign %q %v", x, e)
		}
		if _, e := v.Bundle("+stop" + x + "-voice"); (e == api.OK) != (c == ' ') || e != api.OK && e != api.ErrForm {
			t.Errorf("between items %q %v", x, e)
		}
	}
	if s, e := v.Bundle("+vowel -stop"); s != (api.Sound{Plus: 4, Minus: 2}) || e != api.OK {
		t.Error("the document's example", s, e)
	}
	empty := create(t)
	if s, e := empty.Bundle(""); s != (api.Sound{}) || e != api.OK {
		t.Error("the empty text, without features", s, e)
	}
	if s, e := empty.Bundle("+voice"); s != (api.Sound{}) || e != api.ErrForm {
		t.Error("a feature, without features", s, e)
	}
}

// P3.4, P3.5
func TestBundleOfAll(t *testing.T) {
	v := create(t, number(24)...)
	var up, down, mixed []string
	for f, name := range number(24) {
		up, down, mixed = append(up, "+"+name), append(down, "-"+name), append(mixed, string("+-"[f%2])+name)
	}
	for text, want := range map[string]api.Sound{
		strings.Join(up, " "):    {Plus: 0xffffff},
		strings.Join(down, " "):  {Minus: 0xffffff},
		strings.Join(mixed, " "): {Plus: 0x555555, Minus: 0xaaaaaa},
		"+f23":                   {Plus: 1 << 23},
		"-f23":                   {Minus: 1 << 23},
	} {
		if s, e := v.Bundle(text); s != want || e != api.OK {
			t.Error(text, s, e)
		}
		if got, e := v.Text(want); got != text || e != api.OK {
			t.Error(want, got, e)
		}
	}
	if s, e := v.Bundle(strings.Join(append(up, "+f0"), " ")); s != (api.Sound{}) || e != api.ErrForm {
		t.Error("a 25th item", s, e)
	}
}

// P3.5
func TestText(t *testing.T) {
	v := create(t, three...)
	for _, s := range every(3) {
		want := ""
		for f, name := range three {
			if s.Plus>>f&1 == 1 {
				want += " +" + name
			}
			if s.Minus>>f&1 == 1 {
				want += " -" + name
			}
		}
		if text, e := v.Text(s); text != strings.TrimPrefix(want, " ") || e != api.OK {
			t.Error(s, text, e)
		}
	}
	if text, e := v.Text(api.Sound{Plus: 4, Minus: 2}); text != "-stop +vowel" || e != api.OK {
		t.Error("the document's example", text, e)
	}
	for n := range 25 {
		w := create(t, number(n)...)
		for _, s := range foreign(n) {
			if text, e := w.Text(s); text != "" || e != api.ErrSound {
				t.Error(n, s, text, e)
			}
		}
		if text, e := w.Text(api.Sound{}); text != "" || e != api.OK {
			t.Error("the zero sound", n, text, e)
		}
	}
}

// texts are all texts of at most n bytes of an alphabet.
func texts(alphabet string, n int) []string {
	l := []string{""}
	for from := 0; n > 0; n-- {
		to := len(l)
		for _, text := range l[from:to] {
			for _, c := range alphabet {
				l = append(l, text+string(c))
			}
		}
		from = to
	}
	return l
}

// P3.6, P3.9
func TestLongest(t *testing.T) {
	for _, symbols := range [][]string{
		nil, {"p"}, {"pp"}, {"ppp"}, {"pppp"}, {"p", "ph", "pha", "phat"}, {"phat", "pha", "ph", "p"}, {"p", "phat"}, {"pha", "a"}, {"h", "ha", "hath", "t"}, {"pp", "pppp", "h"},
	} {
		v := create(t, three...)
		for i, symbol := range symbols {
			add(t, v, symbol, every(3)[i])
		}
		for _, text := range texts("phat", 6) {
			want := ""
			for _, symbol := range symbols {
				if strings.HasPrefix(text, symbol) && len(symbol) > len(want) {
					want = symbol
				}
			}
			if got, ok := v.Longest(text); got != want || ok != (want != "") {
				t.Fatal(symbols, text, got, ok)
			}
		}
	}
	v := example(t)
	for text, want := range map[string]string{"phat": "ph", "pat": "p", "hat": "", "": "", "ph": "ph", "p": "p", " p": "", ".p": "", "Ph": "", "p\x00h": "p", "p\xff": "p", "\xff": "", "ph" + strings.Repeat("a", 1<<16): "ph"} {
		if got, ok := v.Longest(text); got != want || ok != (want != "") {
			t.Errorf("%.20q %q %v", text, got, ok)
		}
	}
}

// P3.7
func TestCopy(t *testing.T) {
	v := example(t)
	c := v.Copy()
	state := []api.Named{{Symbol: "p", S: p}, {Symbol: "a", S: a}, {Symbol: "ph", S: ph}}
	same(t, c, three, state)
	if e := c.Add("q", p); e != api.ErrHave {
		t.Error("the sounds of a copy", e)
	}
	add(t, c, "b", b)
	same(t, v, three, state)
	same(t, c, three, append(slices.Clone(state), api.Named{Symbol: "b", S: b}))
	add(t, v, "B", b)
	add(t, v, "ah", ah)
	same(t, v, three, append(slices.Clone(state), api.Named{Symbol: "B", S: b}, api.Named{Symbol: "ah", S: ah}))
	same(t, c, three, append(slices.Clone(state), api.Named{Symbol: "b", S: b}))
	if symbol, ok := c.Longest("ahb"); symbol != "a" || !ok {
		t.Error("Longest in the copy", symbol, ok)
	}
	second := c.Copy()
	add(t, second, "ah", ah)
	same(t, c, three, append(slices.Clone(state), api.Named{Symbol: "b", S: b}))
	same(t, second, three, append(slices.Clone(state), api.Named{Symbol: "b", S: b}, api.Named{Symbol: "ah", S: ah}))
	empty := create(t).Copy()
	same(t, empty, nil, nil)
	add(t, empty, "o", api.Sound{})
	if e := empty.Add("q", api.Sound{Plus: 1}); e != api.ErrSound {
		t.Error("a copy without features", e)
	}
	for range 20 {
		w := full(t)
		same(t, w.Copy(), number(6), w.Sounds())
	}
}

// P3.8
func TestBundlesThereAndBack(t *testing.T) {
	v := create(t, three...)
	for _, s := range every(3) {
		text, e1 := v.Text(s)
		back, e2 := v.Bundle(text)
		if back != s || e1 != api.OK || e2 != api.OK {
			t.Error("Bundle of Text", s, text, back, e1, e2)
		}
	}
	for text, want := range bundles() {
		items := strings.Fields(text)
		slices.SortFunc(items, func(x, y string) int { return slices.Index(three, x[1:]) - slices.Index(three, y[1:]) })
		s, e1 := v.Bundle(text)
		back, e2 := v.Text(s)
		if s != want || back != strings.Join(items, " ") || e1 != api.OK || e2 != api.OK {
			t.Error("Text of Bundle", text, s, back, e1, e2)
		}
		slices.Reverse(items)
		if turned, e := v.Bundle(strings.Join(items, " ")); turned != s || e != api.OK {
			t.Error("another order of the items", text, turned, e)
		}
	}
}

// P3.9
func TestSymbolsThereAndBack(t *testing.T) {
	v := full(t)
	for i := range 256 {
		symbol := "s" + strconv.Itoa(i)
		s, ok1 := v.Sound(symbol)
		back, ok2 := v.Symbol(s)
		if back != symbol || !ok1 || !ok2 {
			t.Error("Symbol of Sound", symbol, s, back)
		}
		found, ok := v.Longest(symbol + "p")
		if found != symbol || !ok {
			t.Error("Longest", symbol, found, ok)
		}
	}
	for _, s := range every(6)[:256] {
		symbol, ok1 := v.Symbol(s)
		back, ok2 := v.Sound(symbol)
		if back != s || !ok1 || !ok2 {
			t.Error("Sound of Symbol", s, symbol, back)
		}
	}
}

// P3.10
func TestQuestionsChangeNothing(t *testing.T) {
	v := example(t)
	state := v.Sounds()
	ask := func(w *inventory.Inv) {
		for _, x := range append(strange(), "p", "a", "ph", "phat", "+voice -stop", "+voice +voice", "voice", "stop") {
			w.Sound(x)
			w.Feat(x)
			w.Bundle(x)
			w.Longest(x)
			same(t, w, three, state)
		}
		for _, s := range append(every(3), foreign(3)...) {
			w.Symbol(s)
			w.Text(s)
			same(t, w, three, state)
		}
		w.Feats()
		w.Sounds()
		w.Len()
		w.Copy()
		same(t, w, three, state)
	}
	ask(v)
	ask(v.Copy())
	for _, x := range []struct {
		symbol string
		s      api.Sound
	}{{"p.", b}, {"b", api.Sound{Plus: 8}}, {"p", b}, {"b", p}} {
		if e := v.Add(x.symbol, x.s); e == api.OK {
			t.Error("added", x)
		}
		same(t, v, three, state)
	}
	add(t, v, "b", b)
	same(t, v, three, append(state, api.Named{Symbol: "b", S: b}))
}

// R2: inventories that are not valid.
func TestNil(t *testing.T) {
	for k, v := range invalid(t) {
		for _, symbol := range []string{"b", "", "p"} {
			for _, s := range []api.Sound{b, p, {Plus: 8}, {Plus: 1, Minus: 1}} {
				if e := v.Add(symbol, s); e != api.ErrNil {
					t.Error(k, "Add", symbol, s, e)
				}
				if x, ok := v.Symbol(s); x != "" || ok {
					t.Error(k, "Symbol", x, ok)
				}
				if text, e := v.Text(s); text != "" || e != api.ErrNil {
					t.Error(k, "Text", text, e)
				}
			}
			if s, ok := v.Sound(symbol); s != (api.Sound{}) || ok {
				t.Error(k, "Sound", s, ok)
			}
			if x, ok := v.Longest(symbol); x != "" || ok {
				t.Error(k, "Longest", x, ok)
			}
		}
		for _, text := range []string{"", "+voice", "+voice -stop", "x", "+vowel  -stop"} {
			if s, e := v.Bundle(text); s != (api.Sound{}) || e != api.ErrNil {
				t.Error(k, "Bundle", text, s, e)
			}
			if f, ok := v.Feat(strings.TrimPrefix(text, "+")); f != 0 || ok {
				t.Error(k, "Feat", f, ok)
			}
		}
		if f, ok := v.Feat("stop"); f != 0 || ok {
			t.Error(k, "Feat", f, ok)
		}
		if len(v.Feats()) != 0 || len(v.Sounds()) != 0 || v.Len() != 0 || v.Copy() != nil {
			t.Error(k, v.Feats(), v.Sounds(), v.Len(), v.Copy())
		}
	}
}

// R2: what is done to a copied struct does not reach the inventory.
func TestCopiedStruct(t *testing.T) {
	v := example(t)
	taken := *v
	if e := taken.Add("b", b); e != api.ErrNil {
		t.Error(e)
	}
	same(t, v, three, []api.Named{{Symbol: "p", S: p}, {Symbol: "a", S: a}, {Symbol: "ph", S: ph}})
	add(t, v, "b", b)
}

// R4: arguments are neither changed nor kept, nor read beyond their length; results are new memory.
func TestMemory(t *testing.T) {
	base := []string{"voice", "stop", "vowel", "voice", "Voice"}
	v, e := inventory.New(base[:3])
	if v == nil || e != api.OK {
		t.Fatal("names beyond the length", e)
	}
	base[0], base[1] = "tone", "Stop"
	same(t, v, three, nil)
	if !slices.Equal(base[2:], []string{"vowel", "voice", "Voice"}) {
		t.Error("changed", base)
	}
	add(t, v, "p", p)
	add(t, v, "a", a)
	state := []api.Named{{Symbol: "p", S: p}, {Symbol: "a", S: a}}
	spoil := func() {
		feats, sounds := v.Feats(), v.Sounds()
		for _, x := range [][]string{feats, feats[:cap(feats)]} {
			for i := range x {
				x[i] = "spoiled"
			}
		}
		for _, x := range [][]api.Named{sounds, sounds[:cap(sounds)]} {
			for i := range x {
				x[i] = api.Named{Symbol: "sp", S: ah}
			}
		}
	}
	spoil()
	same(t, v, three, state)
	c := v.Copy()
	spoil()
	add(t, v, "b", b)
	spoil()
	same(t, c, three, state)
	same(t, v, three, append(slices.Clone(state), api.Named{Symbol: "b", S: b}))
	one, two := v.Sounds(), v.Sounds()
	one[0] = api.Named{Symbol: "x"}
	if two[0] != (api.Named{Symbol: "p", S: p}) {
		t.Error("two results share memory", two)
	}
}

// R8: inventories made by the same calls answer alike, and one does not reach another.
func TestIndependent(t *testing.T) {
	v, w := example(t), example(t)
	add(t, v, "b", b)
	same(t, w, three, []api.Named{{Symbol: "p", S: p}, {Symbol: "a", S: a}, {Symbol: "ph", S: ph}})
	add(t, w, "b", b)
	if !slices.Equal(v.Sounds(), w.Sounds()) || !slices.Equal(v.Feats(), w.Feats()) {
		t.Error(v.Sounds(), w.Sounds())
	}
	first, e1 := inventory.New(number(24))
	second, e2 := inventory.New(number(24))
	if first == second || e1 != api.OK || e2 != api.OK || !slices.Equal(first.Feats(), second.Feats()) {
		t.Error("New", first, second, e1, e2)
	}
}
