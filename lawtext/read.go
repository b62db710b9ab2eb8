package lawtext

import (
	"strconv"
	"strings"

	"ablaut/api"
	"ablaut/inventory"
)

// reader reads a text from its beginning on. Where it cannot go on, reading ends by a panic.
type reader struct {
	v    *inventory.Inv
	rest string
	// How many atoms have been read of a pattern.
	atoms int
}

// parse returns what has a text. The reader is content with more than what is written, such as items in another order or something behind the end, so what it has read is written again, and must be the text.
func parse[T any](v *inventory.Inv, s string, read func(*reader) T, write func(*inventory.Inv, T) (string, api.Errno)) (x T, e api.Errno) {
	if !valid(v) {
		return x, api.ErrNil
	}
	if len(s) > api.MaxText {
		return x, api.ErrLong
	}
	defer func() {
		if recover() != nil {
			e = api.ErrForm
		}
	}()
	found := read(&reader{v: v, rest: s})
	text, wrong := write(v, found)
	if wrong != api.OK || text != s {
		return x, api.ErrForm
	}
	return found, api.OK
}

// law reads a law.
func (r *reader) law() api.Law {
	var l api.Law
	// A part of the text would keep all of it in memory as long as the law.
	l.Name = strings.Clone(r.until(": "))
	l.If = list(r, "[", r.bundle)
	l.Mode = r.mode()
	l.Out = list(r, "{", r.result)
	r.expect(" / ")
	l.Left = r.pattern()
	r.expect("_")
	l.Right = r.pattern()
	return l
}

// list reads elements that begin with the same sign, or what stands for none.
func list[T any](r *reader, begin string, element func() T) []T {
	var l []T
	if r.skip(nothing) {
		return l
	}
	for r.skip(begin) {
		l = append(l, element())
	}
	return l
}

// mode reads the arrow of a law.
func (r *reader) mode() int {
	for mode, arrow := range arrows {
		if mode != 0 && r.skip(arrow) {
			return mode
		}
	}
	panic(api.ErrForm)
}

// result reads a result behind its first bracket.
func (r *reader) result() api.Out {
	items := strings.Split(r.until("}"), " ")
	o := api.Out{From: number(items[0]) - 1}
	for _, item := range items[1:] {
		lost, loses := strings.CutPrefix(item, "~")
		of, taken, takes := strings.Cut(item, ":")
		switch {
		case loses:
			o.Clear |= r.feature(lost)
		case takes:
			o.Take |= r.feature(taken)
			o.Of = number(of) - 1
		default:
			s := r.values(item)
			o.Set.Plus |= s.Plus
			o.Set.Minus |= s.Minus
		}
	}
	return o
}

// pattern reads a pattern, which is normal then.
func (r *reader) pattern() api.Pat {
	r.atoms = 0
	return normal(r.sequence())
}

// sequence reads atoms with their signs, as long as there are any.
func (r *reader) sequence() api.Pat {
	p := api.Pat{Kind: api.PatSeq}
	for r.rest != "" && strings.IndexByte("^$[!(", r.rest[0]) >= 0 {
		one := r.atom()
		if least, most, ok := r.sign(); ok {
			one = api.Pat{Kind: api.PatRep, Min: least, Max: most, L: []api.Pat{one}}
		}
		p.L = append(p.L, one)
	}
	return p
}

// atom reads what a sign can belong to.
func (r *reader) atom() api.Pat {
	// Each atom, also a group, stands for a node. Without this bound, groups could be in one another as deep as the text is long.
	r.atoms++
	if r.atoms > api.MaxPat {
		panic(api.ErrForm)
	}
	switch {
	case r.skip("^"):
		return api.Pat{Kind: api.PatBegin}
	case r.skip("$"):
		return api.Pat{Kind: api.PatEnd}
	case r.skip(never):
		return api.Pat{Kind: api.PatAlt}
	case r.skip("("):
		return r.group()
	}
	not := r.skip("!")
	r.expect("[")
	return api.Pat{Kind: api.PatSound, Is: r.bundle(), Not: not}
}

// group reads what stands in brackets, behind the first one: also a single element, of which the normal form makes no alternative.
func (r *reader) group() api.Pat {
	p := api.Pat{Kind: api.PatAlt, L: []api.Pat{r.sequence()}}
	for r.skip("|") {
		p.L = append(p.L, r.sequence())
	}
	r.expect(")")
	return p
}

// sign reads how often something is repeated, if that is said.
func (r *reader) sign() (least, most int, ok bool) {
	for _, s := range signs {
		if r.skip(s.text) {
			return s.least, s.most, true
		}
	}
	if !r.skip("{") {
		return 0, 0, false
	}
	first, second, two := strings.Cut(r.until("}"), ",")
	least = number(first)
	switch {
	case !two:
		most = least
	case second == "":
		most = -1
	default:
		most = number(second)
	}
	return least, most, true
}

// bundle reads a condition behind its first bracket.
func (r *reader) bundle() api.Sound { return r.values(r.until("]")) }

// values returns the sound for which a bundle stands.
func (r *reader) values(text string) api.Sound {
	s, e := r.v.Bundle(text)
	if e != api.OK {
		panic(e)
	}
	return s
}

// feature returns the set with the feature of a name.
func (r *reader) feature(name string) uint32 {
	f, ok := r.v.Feat(name)
	if !ok {
		panic(api.ErrForm)
	}
	return 1 << f
}

// number returns the number that a text is.
func number(text string) int {
	n, err := strconv.Atoi(text)
	if err != nil {
		panic(api.ErrForm)
	}
	return n
}

// skip reads a text if it comes next, and reports whether it does.
func (r *reader) skip(text string) bool {
	rest, ok := strings.CutPrefix(r.rest, text)
	r.rest = rest
	return ok
}

// expect reads a text that must come next.
func (r *reader) expect(text string) {
	if !r.skip(text) {
		panic(api.ErrForm)
	}
}

// until reads what comes before some text, and this text.
func (r *reader) until(text string) string {
	before, rest, ok := strings.Cut(r.rest, text)
	if !ok {
		panic(api.ErrForm)
	}
	r.rest = rest
	return before
}
