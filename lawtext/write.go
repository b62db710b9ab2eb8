package lawtext

import (
	"strconv"
	"strings"

	"ablaut/api"
	"ablaut/inventory"
)

// writer writes valid patterns and laws whose features the inventory has.
type writer struct{ v *inventory.Inv }

// law returns the text of a law.
func (w writer) law(l api.Law) string {
	return l.Name + ": " + orNothing(l.If, w.sound) + arrows[l.Mode] + orNothing(l.Out, w.result) +
		" / " + w.pattern(l.Left) + "_" + w.pattern(l.Right)
}

// pattern returns the text of a pattern.
func (w writer) pattern(p api.Pat) string { return w.normal(normal(p)) }

// normal returns the text of a normal pattern.
func (w writer) normal(p api.Pat) string {
	switch p.Kind {
	case api.PatSound:
		if p.Not {
			return "!" + w.sound(p.Is)
		}
		return w.sound(p.Is)
	case api.PatBegin:
		return "^"
	case api.PatEnd:
		return "$"
	case api.PatSeq:
		return w.elements(p.L, "")
	case api.PatAlt:
		if len(p.L) == 0 {
			return never
		}
		return "(" + w.elements(p.L, "|") + ")"
	case api.PatRep:
		return w.repeated(p.L[0]) + signOf(p.Min, p.Max)
	}
	return ""
}

// elements returns the texts of normal patterns, with something between two of them.
func (w writer) elements(l []api.Pat, between string) string {
	var texts []string
	for _, p := range l {
		texts = append(texts, w.normal(p))
	}
	return strings.Join(texts, between)
}

// repeated returns the text of a normal pattern to which a sign belongs.
func (w writer) repeated(p api.Pat) string {
	switch p.Kind {
	case api.PatEmpty, api.PatSeq, api.PatRep:
		return "(" + w.normal(p) + ")"
	}
	return w.normal(p)
}

// sound returns the text of a condition.
func (w writer) sound(s api.Sound) string { return "[" + w.bundle(s) + "]" }

// bundle returns the values of a sound as a text.
func (w writer) bundle(s api.Sound) string {
	text, _ := w.v.Text(s)
	return text
}

// result returns the text of a result.
func (w writer) result(o api.Out) string {
	items := []string{strconv.Itoa(o.From + 1)}
	items = append(items, w.named(o.Clear, "~")...)
	if o.Set != (api.Sound{}) {
		items = append(items, w.bundle(o.Set))
	}
	items = append(items, w.named(o.Take, strconv.Itoa(o.Of+1)+":")...)
	return "{" + strings.Join(items, " ") + "}"
}

// named returns the names of a set of features, with something before each of them.
func (w writer) named(set uint32, before string) []string {
	var l []string
	for f, name := range w.v.Feats() {
		if set>>f&1 == 1 {
			l = append(l, before+name)
		}
	}
	return l
}

// orNothing returns the texts of the elements of a list, one after the other, or what stands for none.
func orNothing[T any](l []T, text func(T) string) string {
	if len(l) == 0 {
		return nothing
	}
	var all strings.Builder
	for _, x := range l {
		all.WriteString(text(x))
	}
	return all.String()
}

// signOf returns the sign for numbers of repetitions.
func signOf(least, most int) string {
	for _, s := range signs {
		if s.least == least && s.most == most {
			return s.text
		}
	}
	text := "{" + strconv.Itoa(least)
	switch most {
	case least:
	case -1:
		text += ","
	default:
		text += "," + strconv.Itoa(most)
	}
	return text + "}"
}

// has reports whether an inventory has all features of a set.
func has(v *inventory.Inv, set uint32) bool { return set>>len(v.Feats()) == 0 }

// lawFeatures returns the set of the features of a law.
func lawFeatures(l api.Law) uint32 {
	set := patFeatures(l.Left) | patFeatures(l.Right)
	for _, s := range l.If {
		set |= valued(s)
	}
	for _, o := range l.Out {
		set |= o.Clear | valued(o.Set) | o.Take
	}
	return set
}

// patFeatures returns the set of the features of a pattern.
func patFeatures(p api.Pat) uint32 {
	set := valued(p.Is)
	for _, q := range p.L {
		set |= patFeatures(q)
	}
	return set
}

// valued returns the set of the features that have a value.
func valued(s api.Sound) uint32 { return s.Plus | s.Minus }
