package law

import (
	"iter"
	"slices"

	"ablaut/api"
	"ablaut/feats"
	"ablaut/pats"
)

// path is the way of a law through a word: the place where it begins, and how far it goes on from a place that is not hit, and from one that is.
type path struct{ start, step, jump int }

// pathOf returns the way of a law through a word of n sounds.
func pathOf(l api.Law, n int) path {
	// Where no sounds are taken out, one sound is passed, or the same place would be hit for ever.
	passed := max(len(l.If), 1)
	switch l.Mode {
	case api.ModeRight:
		// The sounds that were put in are passed as well, and those that were taken out are gone.
		return path{0, 1, passed + len(l.Out) - len(l.If)}
	case api.ModeLeft:
		return path{n - len(l.If), -1, -passed}
	}
	return path{0, 1, passed}
}

// apply returns a word after all replacements of a law.
func apply(l api.Law, w api.Word) (api.Word, api.Errno) {
	last := slices.Clone(w)
	for _, next := range replacements(l, w) {
		if len(next) > api.MaxWord {
			return nil, api.ErrLong
		}
		last = next
	}
	return last, api.OK
}

// replacements yields the places at which a law replaces sounds of a word, in their order, and the word after each replacement. Nobody may ask for more behind one that is too long.
func replacements(l api.Law, w api.Word) iter.Seq2[int, api.Word] {
	return func(yield func(int, api.Word) bool) {
		now := w
		seen := func() api.Word { return now }
		if l.Mode == api.ModeAll {
			seen = func() api.Word { return w }
		}
		for place := range hits(l, seen, pathOf(l, len(w))) {
			// From this place on, the word as it is ends like the one that is seen, so the place is counted from the end.
			now = replace(l, now, place+len(now)-len(seen()))
			if !yield(place, now) {
				return
			}
		}
	}
}

// hits yields the places on a path that are hit in the word that is seen. What is done with one may change what is seen then.
func hits(l api.Law, seen func() api.Word, p path) iter.Seq[int] {
	satisfies := func(i int, cond api.Sound) bool { return feats.Satisfies(seen()[i], cond) }
	return func(yield func(int) bool) {
		next := 0
	places:
		for place := p.start; place >= 0 && place+len(l.If) <= len(seen()); place = next {
			next = place + p.step
			for i, cond := range l.If {
				if !satisfies(place+i, cond) {
					continue places
				}
			}
			if !surrounded(l, seen(), place) {
				continue
			}
			if !yield(place) {
				return
			}
			next = place + p.jump
		}
	}
}

// surrounded reports whether the patterns of a law match what is before a place, and what is behind the sounds that would be replaced there.
func surrounded(l api.Law, w api.Word, place int) bool {
	return matchesPart(l.Left, w, place, pats.Begins) && matchesPart(l.Right, w, place+len(l.If), pats.Ends)
}

// matchesPart reports whether a pattern matches some part of a word at a place, one that ends or begins there: others says where its other end is.
func matchesPart(p api.Pat, w api.Word, place int, others func(api.Pat, api.Word, int) ([]int, api.Errno)) bool {
	// Most laws have an empty pattern, which asks nothing, so the word need not be searched for it.
	if p.Kind == api.PatEmpty {
		return true
	}
	found, _ := others(p, w, place)
	return len(found) > 0
}

// replace returns a word after a replacement at a place.
func replace(l api.Law, w api.Word, place int) api.Word {
	behind := place + len(l.If)
	return slices.Concat(w[:place], results(l, w[place:behind]), w[behind:])
}

// results returns the sounds that are put in for those that are taken out.
func results(l api.Law, taken []api.Sound) []api.Sound {
	var put []api.Sound
	for _, o := range l.Out {
		put = append(put, result(o, taken))
	}
	return put
}

// result returns a sound that is put in for those that are taken out. No step fails, because the law and the sounds are valid.
func result(o api.Out, taken []api.Sound) api.Sound {
	var s api.Sound
	if o.From >= 0 {
		s = taken[o.From]
	}
	s, _ = feats.Change(s, o.Clear, o.Set)
	if o.Take != 0 {
		s, _ = feats.Take(s, taken[o.Of], o.Take)
	}
	return s
}
