package auto

import (
	"iter"
	"math/bits"

	"ablaut/api"
	"ablaut/feats"
)

// places is a set of places in a pattern: the bit 1 is that of its beginning, and the bit 1<<i that of the place behind its sound i. Sounds are numbered from 1 on; each repetition has its own ones.
type places uint16

const beginning places = 1

// What a place of a word is. The only place of the empty word is the first and the last one.
const (
	inside = 0
	front  = 1
	back   = 2
)

// part says for each kind of places of a word what a part of a pattern matches there.
type part [4]edge

// edge is what a part of a pattern matches at a place of a word: whether it matches nothing; behind which sounds one may be if it begins there, one sound later; and behind which sounds it may end there. Nobody asks what begins at the last place of a word, or ends at the first one.
type edge struct {
	nothing  bool
	from, to places
}

// chart has the sounds of a pattern, and for each place in it those behind the sounds that may come next.
type chart struct {
	sounds []api.Pat
	next   [maxWidth + 1]places
}

// width returns the width of a valid pattern, or maxWidth+1 if it is greater than that.
func width(p api.Pat) int {
	sum := 0
	for _, q := range p.L {
		sum += width(q)
	}
	switch p.Kind {
	case api.PatSound:
		sum = 1
	case api.PatRep:
		sum *= max(1, p.Min, p.Max)
	}
	return min(sum, maxWidth+1)
}

// read returns the states of an automaton for a pattern that is not too wide.
func read(p api.Pat, sounds []api.Sound) []state {
	var c chart
	whole := c.part(p)
	c.next[0] = whole[front].from
	accepting := whole[back].to | when(whole[front|back].nothing, beginning)
	fitting := c.fitting(sounds)
	lead := func(at places, i int) places {
		var to places
		for place := range at.each() {
			to |= c.next[place]
		}
		return to & fitting[i]
	}
	return explore(beginning, len(sounds), lead, func(at places) bool { return at&accepting != 0 })
}

// fitting returns for each sound the places behind it.
func (c *chart) fitting(sounds []api.Sound) [maxSounds]places {
	var fitting [maxSounds]places
	for i, s := range sounds {
		for k, p := range c.sounds {
			fitting[i] |= when(feats.Satisfies(s, p.Is) != p.Not, behind(k+1))
		}
	}
	return fitting
}

// part enters a part of a pattern into the chart.
func (c *chart) part(p api.Pat) part {
	switch p.Kind {
	case api.PatSound:
		return c.sound(p)
	case api.PatBegin:
		return nothing(func(kind int) bool { return kind&front != 0 })
	case api.PatEnd:
		return nothing(func(kind int) bool { return kind&back != 0 })
	case api.PatSeq:
		m := anywhere()
		for _, q := range p.L {
			m = c.then(m, c.part(q))
		}
		return m
	case api.PatAlt:
		var m part
		for _, q := range p.L {
			m = m.or(c.part(q))
		}
		return m
	case api.PatRep:
		return c.repeat(p)
	}
	return anywhere()
}

func (c *chart) sound(p api.Pat) part {
	c.sounds = append(c.sounds, p)
	place := behind(len(c.sounds))
	var m part
	for kind := range m {
		m[kind] = edge{from: place, to: place}
	}
	return m
}

func (c *chart) repeat(p api.Pat) part {
	times := p.Max
	if times == -1 {
		times = max(1, p.Min)
	}
	// What has no sounds matches a place again if it matches it once. Its repetitions may be too many to be gone through.
	if width(p.L[0]) == 0 {
		times = 1
	}
	m := anywhere()
	for k := range times {
		once := c.part(p.L[0])
		if p.Max == -1 {
			c.join(once, once)
		}
		if k >= p.Min {
			once = once.or(anywhere())
		}
		m = c.then(m, once)
	}
	return m
}

// then returns the part that consists of m and next behind it.
func (c *chart) then(m, next part) part {
	c.join(m, next)
	var joined part
	for kind := range joined {
		a, b := m[kind], next[kind]
		joined[kind] = edge{
			nothing: a.nothing && b.nothing,
			from:    a.from | when(a.nothing, b.from),
			to:      b.to | when(b.nothing, a.to),
		}
	}
	return joined
}

// join lets the sounds with which next begins come behind those with which m ends. The place between two sounds is inside the word.
func (c *chart) join(m, next part) {
	for place := range m[inside].to.each() {
		c.next[place] |= next[inside].from
	}
}

// or returns the part that matches what m or other matches.
func (m part) or(other part) part {
	for kind, b := range other {
		a := m[kind]
		m[kind] = edge{a.nothing || b.nothing, a.from | b.from, a.to | b.to}
	}
	return m
}

// nothing returns the part that matches nothing, at the places of some kinds.
func nothing(at func(kind int) bool) part {
	var m part
	for kind := range m {
		m[kind].nothing = at(kind)
	}
	return m
}

func anywhere() part { return nothing(func(int) bool { return true }) }

// when returns the places if the condition holds, and otherwise none.
func when(ok bool, s places) places {
	if ok {
		return s
	}
	return 0
}

// behind returns the place behind a sound.
func behind(sound int) places { return 1 << sound }

// each yields the numbers of the places of a set.
func (s places) each() iter.Seq[int] {
	return func(yield func(int) bool) {
		for rest := s; rest != 0; rest &= rest - 1 {
			if !yield(bits.TrailingZeros16(uint16(rest))) {
				return
			}
		}
	}
}
