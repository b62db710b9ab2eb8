package lawtext_test

import (
	"math/rand"
	"slices"
	"strings"
	"testing"

	"ablaut/api"
	"ablaut/inventory"
	"ablaut/lawtext"
)

// checkAll checks what ParseAll returns for a text.
func checkAll(t *testing.T, v *inventory.Inv, s string, want []api.Law, line int, e api.Errno) {
	t.Helper()
	l, n, err := lawtext.ParseAll(v, s)
	if !slices.EqualFunc(l, want, sameLaw) || n != line || err != e {
		t.Errorf("ParseAll %.100q %d %v %d %v %d %v", s, len(s), l, n, err, line, e)
	}
}

// checkNone checks the errors of ParseAll.
func checkNone(t *testing.T, v *inventory.Inv, s string, line int, e api.Errno) {
	t.Helper()
	checkAll(t, v, s, nil, line, e)
}

func checkPrintAll(t *testing.T, v *inventory.Inv, l []api.Law, want string, e api.Errno) {
	t.Helper()
	if s, err := lawtext.PrintAll(v, l); s != want || err != e {
		t.Errorf("PrintAll %.100q %d %v %.100q %d %v", s, len(s), err, want, len(want), e)
	}
}

// P9.6, P9.7: the chapter's laws, and how many there may be.
func TestAllLaws(t *testing.T) {
	v := made(three)
	laws, all := examples()
	for n := range len(laws) + 1 {
		text := ""
		for _, line := range all[:n] {
			text += line + "\n"
		}
		checkPrintAll(t, v, laws[:n], text, api.OK)
		checkAll(t, v, text, laws[:n], 0, api.OK)
	}
	checkPrintAll(t, v, nil, "", api.OK)
	checkPrintAll(t, v, []api.Law{}, "", api.OK)
	checkPrintAll(t, made(nil), nil, "", api.OK)
	checkAll(t, made(nil), "", nil, 0, api.OK)
	for n := range 70 {
		l, text := slices.Repeat(laws[1:2], n), strings.Repeat(all[1]+"\n", n)
		if n <= 64 {
			checkPrintAll(t, v, l, text, api.OK)
			checkAll(t, v, text, l, 0, api.OK)
		} else {
			checkPrintAll(t, v, l, "", api.ErrMany)
			checkNone(t, v, text, 0, api.ErrMany)
		}
	}
	// A line without a line feed counts, too.
	full := strings.Repeat(all[1]+"\n", 64)
	checkNone(t, v, full+all[1], 0, api.ErrMany)
	checkNone(t, v, full+"x", 0, api.ErrMany)
	checkNone(t, v, full+"\n", 0, api.ErrMany)
	checkNone(t, v, full[:len(full)-1], 64, api.ErrForm)
	// Patterns that are not normal.
	l := laws[0]
	l.Left, l.Right = seq(vowel, empty), alt(seq(vowel))
	checkPrintAll(t, v, []api.Law{l, laws[1]}, all[0]+"\n"+all[1]+"\n", api.OK)
}

// P9.7: the number of the first line that is wrong.
func TestWrongLines(t *testing.T) {
	v := made(three)
	_, all := examples()
	good := all[0] + "\n"
	for _, x := range []struct {
		s    string
		line int
	}{
		{"\n", 1}, {"\n\n", 1}, {"x", 1}, {" ", 1}, {"x\n", 1}, {all[0], 1}, {good + all[1], 2}, {good + "\n", 2}, {"\n" + good, 1}, {good + "\n" + good, 2}, {good + good + "x", 3}, {good + good + " ", 3},
		{all[0] + "\r\n", 1}, {all[0] + " \n", 1}, {good + " " + good, 2}, {good + all[1] + "\n\n\n", 3}, {all[0] + "\r", 1}, {good + "\r" + good, 2}, {all[0] + good, 1}, {good + "\x00\n", 2}, {good + "\xff\n", 2},
		{good + "x: 0 > 0 / _\n" + good, 2}, {good + good + "x: 0 > 0 / _", 3}, {"# " + good, 1}, {good + "x\ny\n", 2}, {"x\n" + all[1], 1}, {good + good + good + "[+stop]\n", 4}, {good + "x: [+tone] > 0 / _\n", 2}, {good + "\u2028\n", 2}, {good + "x: [] > 0 / _\v\n", 2},
	} {
		checkNone(t, v, x.s, x.line, api.ErrForm)
	}
	for wrong := range 64 {
		for _, bad := range []string{"", "x", "x: 0 > 0 / _", all[1] + " ", strings.Repeat("(", 3000)} {
			lines := slices.Repeat([]string{all[1]}, 64)
			lines[wrong] = bad
			checkNone(t, v, strings.Join(lines, "\n")+"\n", wrong+1, api.ErrForm)
			lines[63] = "y"
			checkNone(t, v, strings.Join(lines, "\n")+"\n", wrong+1, api.ErrForm)
			checkNone(t, v, strings.Join(lines[:wrong+1], "\n")+"\n", wrong+1, api.ErrForm)
		}
		if wrong > 0 {
			checkNone(t, v, strings.Join(slices.Repeat([]string{all[1]}, wrong), "\n"), wrong, api.ErrForm)
		}
	}
}

// sized is a law whose text has n bytes, from 900 to 1050, for the features of manyFeats.
func sized(n int) api.Law {
	const all = 1<<24 - 1
	q := seq(sound(api.Sound{Plus: all}), sound(api.Sound{Minus: all}))
	l := api.Law{Name: "x", Left: q, Out: outs(api.Out{From: -1}), Mode: api.ModeAll}
	rest := n - len(modelLaw(manyFeats(), l))
	// A feature has 18 bytes with its sign and a space, and takes no space if it is the first one; the brackets make up for it.
	third := api.Sound{Plus: 1<<((rest-20)/18) - 1}
	l.Left.L = append(l.Left.L, sound(third))
	rest = n - len(modelLaw(manyFeats(), l))
	l.Left.L = append(l.Left.L, times(rest, begin)...)
	return l
}

// P9.6, P9.7: 65,536 bytes, and one more.
func TestLengthOfAll(t *testing.T) {
	v := made(manyFeats())
	laws := slices.Repeat([]api.Law{sized(1023)}, 64)
	line := modelLaw(manyFeats(), sized(1023)) + "\n"
	if len(line) != 1024 {
		t.Fatal("the example is wrong", len(line))
	}
	text := strings.Repeat(line, 64)
	checkPrintAll(t, v, laws, text, api.OK)
	checkAll(t, v, text, laws, 0, api.OK)
	for _, i := range []int{0, 30, 63} {
		less, more := slices.Clone(laws), slices.Clone(laws)
		less[i], more[i] = sized(1022), sized(1024)
		shorter := text[:i*1024] + modelLaw(manyFeats(), less[i]) + "\n" + text[(i+1)*1024:]
		longer := text[:i*1024] + modelLaw(manyFeats(), more[i]) + "\n" + text[(i+1)*1024:]
		if len(shorter) != 65535 || len(longer) != 65537 {
			t.Fatal("the example is wrong", len(shorter), len(longer))
		}
		checkPrintAll(t, v, less, shorter, api.OK)
		checkAll(t, v, shorter, less, 0, api.OK)
		checkPrintAll(t, v, more, "", api.ErrLong)
		checkNone(t, v, longer, 0, api.ErrLong)
	}
	// Two laws that are too long together.
	long := slices.Repeat([]api.Law{longLaw()}, 64)
	one := modelLaw(manyFeats(), longLaw()) + "\n"
	checkPrintAll(t, v, long[:1], one, api.OK)
	checkAll(t, v, one, long[:1], 0, api.OK)
	checkPrintAll(t, v, long[:2], "", api.ErrLong)
	checkPrintAll(t, v, long, "", api.ErrLong)
	checkNone(t, v, one+one, 0, api.ErrLong)
	// One line that is not a law.
	for _, c := range []string{"x", "(", " ", "^", "\xff"} {
		checkNone(t, v, strings.Repeat(c, 65536), 1, api.ErrForm)
		checkNone(t, v, strings.Repeat(c, 65535)+"\n", 1, api.ErrForm)
		checkNone(t, v, strings.Repeat(c, 65537), 0, api.ErrLong)
		checkNone(t, v, strings.Repeat(c, 65536)+"\n", 0, api.ErrLong)
	}
}

// P9.6: the errors in their order.
func TestPrintAllErrors(t *testing.T) {
	v := made(manyFeats())
	good, _ := examples()
	bad := api.Law{Name: "x"}
	tooLong := slices.Repeat([]api.Law{longLaw()}, 63)
	for _, v := range badInvs() {
		for _, l := range [][]api.Law{nil, good, {bad}, slices.Repeat(good, 13), tooLong} {
			checkPrintAll(t, v, l, "", api.ErrNil)
		}
	}
	// Too many, whatever they are.
	for _, l := range []api.Law{good[0], bad, longLaw(), {Name: "x", If: list(api.Sound{Plus: 1 << 24}), Mode: api.ModeAll}} {
		checkPrintAll(t, v, slices.Repeat([]api.Law{l}, 65), "", api.ErrMany)
		checkPrintAll(t, v, slices.Repeat([]api.Law{l}, 1000), "", api.ErrMany)
	}
	// The first law with an error, before what is too long.
	far := api.Law{Name: "x", If: list(api.Sound{Plus: 8}), Mode: api.ModeAll}
	w := made(three)
	checkPrintAll(t, w, []api.Law{good[0], far, bad}, "", api.ErrSound)
	checkPrintAll(t, w, []api.Law{good[0], bad, far}, "", api.ErrLaw)
	checkPrintAll(t, w, []api.Law{far, good[0]}, "", api.ErrSound)
	checkPrintAll(t, w, append(slices.Repeat(good[:1], 63), bad), "", api.ErrLaw)
	checkPrintAll(t, v, append(slices.Clone(tooLong), bad), "", api.ErrLaw)
	checkPrintAll(t, v, append([]api.Law{bad}, tooLong...), "", api.ErrLaw)
	checkPrintAll(t, made(manyFeats()[:23]), append(slices.Repeat([]api.Law{sized(950)}, 1), bad), "", api.ErrSound)
}

// P9.7: the errors in their order.
func TestParseAllErrors(t *testing.T) {
	v := made(three)
	for _, v := range badInvs() {
		for _, s := range []string{"", "x", "\n", strings.Repeat("\n", 65), strings.Repeat("\n", 65536), strings.Repeat("x", 65537)} {
			checkNone(t, v, s, 0, api.ErrNil)
		}
	}
	checkNone(t, v, strings.Repeat("\n", 65537), 0, api.ErrLong)
	checkNone(t, v, strings.Repeat("x\n", 40000), 0, api.ErrLong)
	checkNone(t, v, strings.Repeat("\n", 65536), 0, api.ErrMany)
	checkNone(t, v, strings.Repeat("\n", 65), 0, api.ErrMany)
	checkNone(t, v, strings.Repeat("\n", 64)+"x", 0, api.ErrMany)
	checkNone(t, v, strings.Repeat("\n", 64), 1, api.ErrForm)
	checkNone(t, v, strings.Repeat("\n", 63)+"x", 1, api.ErrForm)
}

// P9.6 to P9.8: there and back, and texts with a change.
func TestRandomLists(t *testing.T) {
	t.Parallel()
	r := rand.New(rand.NewSource(6))
	v := made(three)
	for range 1500 {
		var laws, normal []api.Law
		text := ""
		for range r.Intn(8) {
			l := randomLaw(r, 3, 8)
			laws, normal = append(laws, l), append(normal, normalLaw(l))
			text += modelLaw(three, l) + "\n"
		}
		checkPrintAll(t, v, laws, text, api.OK)
		checkAll(t, v, text, normal, 0, api.OK)
		for range 5 {
			compareLines(t, v, edited(r, three, text))
		}
	}
}

// compareLines compares ParseAll with the model, line by line.
func compareLines(t *testing.T, v *inventory.Inv, s string) {
	t.Helper()
	var laws []api.Law
	lines := strings.Split(s, "\n")
	ended := len(lines) - 1
	if lines[ended] == "" {
		lines = lines[:ended]
	}
	if len(lines) > 64 {
		checkNone(t, v, s, 0, api.ErrMany)
		return
	}
	for i, line := range lines {
		l, ok := readLaw(three, line)
		if !ok || i == ended {
			checkNone(t, v, s, i+1, api.ErrForm)
			return
		}
		laws = append(laws, l)
	}
	checkAll(t, v, s, laws, 0, api.OK)
}
