package law

import (
	"slices"

	"ablaut/api"
	"ablaut/feats"
	"ablaut/pats"
	"ablaut/word"
)

// check returns what is wrong with a law, or with a word.
func check(l api.Law, w api.Word) api.Errno {
	if !valid(l) {
		return api.ErrLaw
	}
	return word.Check(w)
}

func valid(l api.Law) bool {
	return isName(l.Name) && pats.Check(l.Left) == api.OK && pats.Check(l.Right) == api.OK &&
		validIf(l.If) && validOut(l.Out, len(l.If)) && len(l.If)+len(l.Out) > 0 && isMode(l.Mode)
}

func isName(s string) bool {
	if len(s) == 0 || len(s) > api.MaxName {
		return false
	}
	for i := range len(s) {
		if !isNameByte(s[i]) {
			return false
		}
	}
	return true
}

func isNameByte(c byte) bool {
	return 'a' <= c && c <= 'z' || 'A' <= c && c <= 'Z' || '0' <= c && c <= '9' || c == '-'
}

func isMode(m int) bool { return m == api.ModeAll || m == api.ModeRight || m == api.ModeLeft }

func validIf(l []api.Sound) bool {
	return len(l) <= api.MaxIf && !slices.ContainsFunc(l, func(s api.Sound) bool { return !feats.Valid(s) })
}

// validOut reports whether the sounds that a law with some number of conditions puts in are valid.
func validOut(l []api.Out, conditions int) bool {
	isIndex := func(n int) bool { return 0 <= n && n < conditions }
	if len(l) > api.MaxOut {
		return false
	}
	for _, o := range l {
		if o.From != -1 && !isIndex(o.From) || !validChange(o) {
			return false
		}
		if o.Take != 0 && !isIndex(o.Of) || o.Take == 0 && o.Of != 0 {
			return false
		}
	}
	return true
}

// validChange reports whether each change of a sound is one of features, and none is changed in two ways.
func validChange(o api.Out) bool {
	set := o.Set.Plus | o.Set.Minus
	return feats.Valid(o.Set) && (o.Clear|o.Take)>>api.MaxFeats == 0 &&
		o.Clear&set == 0 && o.Take&set == 0 && o.Take&o.Clear == 0
}
