package pats

import (
	"iter"
	"math/bits"

	"ablaut/api"
)

// places is a set of places of a word: the bit 1<<i is that of place i.
type places uint64

// parts are parts of a word: for each place, those where a part that begins there ends. Places that the word does not have begin none.
type parts [api.MaxWord + 1]places

// node is a node of a valid pattern.
type node interface {
	// match returns the parts of a word that the node matches.
	match(w api.Word) parts
}

type (
	emptyNode struct{}
	beginNode struct{}
	endNode   struct{}

	soundNode struct {
		is  api.Sound
		not bool
	}
	seqNode []node
	altNode []node
	repNode struct {
		of          node
		least, most int
	}
)

// nodeOf returns the node for a valid pattern.
func nodeOf(p api.Pat) node {
	switch p.Kind {
	case api.PatSound:
		return soundNode{p.Is, p.Not}
	case api.PatBegin:
		return beginNode{}
	case api.PatSeq:
		return seqNode(nodesOf(p.L))
	case api.PatAlt:
		return altNode(nodesOf(p.L))
	case api.PatRep:
		return repNode{nodeOf(p.L[0]), p.Min, p.Max}
	case api.PatEnd:
		return endNode{}
	}
	return emptyNode{}
}

func nodesOf(l []api.Pat) []node {
	var ns []node
	for _, p := range l {
		ns = append(ns, nodeOf(p))
	}
	return ns
}

func (emptyNode) match(w api.Word) parts {
	var m parts
	for a := range len(w) + 1 {
		m[a] = only(a)
	}
	return m
}

func (beginNode) match(api.Word) parts { return parts{0: only(0)} }

func (endNode) match(w api.Word) parts {
	var m parts
	m[len(w)] = only(len(w))
	return m
}

func (n soundNode) match(w api.Word) parts {
	var m parts
	for a, s := range w {
		if satisfies(s, n.is) != n.not {
			m[a] = only(a + 1)
		}
	}
	return m
}

func (n seqNode) match(w api.Word) parts {
	m := emptyNode{}.match(w)
	for _, next := range n {
		m = m.then(next.match(w))
	}
	return m
}

func (n altNode) match(w api.Word) parts {
	var m parts
	for _, other := range n {
		m = m.or(other.match(w))
	}
	return m
}

func (n repNode) match(w api.Word) parts {
	once, exactly := n.of.match(w), emptyNode{}.match(w)
	for range n.least {
		exactly = exactly.then(once)
	}
	m := exactly
	for k := n.least; n.most == -1 || k < n.most; k++ {
		exactly = exactly.then(once)
		more := m.or(exactly)
		// If one more repetition adds nothing, then no number of them does.
		if more == m {
			break
		}
		m = more
	}
	return m
}

// then returns the parts that consist of one of m and one of next behind it.
func (m parts) then(next parts) parts {
	var joined parts
	for a, middles := range m {
		for b := range middles.each() {
			joined[a] |= next[b]
		}
	}
	return joined
}

// or returns the parts that are in m or in other.
func (m parts) or(other parts) parts {
	for a := range m {
		m[a] |= other[a]
	}
	return m
}

func only(place int) places { return 1 << place }

func (s places) has(place int) bool { return s>>place&1 == 1 }

// greatest returns the greatest place of a set that is not empty.
func (s places) greatest() int { return bits.Len64(uint64(s)) - 1 }

// each yields the places of a set in increasing order.
func (s places) each() iter.Seq[int] {
	return func(yield func(int) bool) {
		for rest := s; rest != 0; rest &= rest - 1 {
			if !yield(bits.TrailingZeros64(uint64(rest))) {
				return
			}
		}
	}
}
