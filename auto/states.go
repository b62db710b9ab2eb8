package auto

// state is a state of an automaton: whether what led there is accepted, and for the index of each sound of the alphabet the state to which the sound leads. Where there is no sound, this is 0.
type state struct {
	accepts bool
	next    [maxSounds]int
}

// explore returns the states that some number of sounds reach from a first one. They are known by keys: lead says to which one a sound leads.
func explore[K comparable](first K, sounds int, lead func(at K, i int) K, accepts func(at K) bool) []state {
	keys, found := []K{first}, map[K]int{first: 0}
	var states []state
	for len(states) < len(keys) {
		at := keys[len(states)]
		s := state{accepts: accepts(at)}
		for i := range sounds {
			to := lead(at, i)
			n, ok := found[to]
			if !ok {
				n = len(keys)
				keys, found[to] = append(keys, to), n
			}
			s.next[i] = n
		}
		states = append(states, s)
	}
	return states
}

// pair returns the states of two automata that go through the same lists together; accepts says whether a list is accepted if they accept it, or do not.
func pair(a, b *Auto, accepts func(x, y bool) bool) []state {
	lead := func(at [2]int, i int) [2]int {
		return [2]int{a.states[at[0]].next[i], b.states[at[1]].next[i]}
	}
	return explore([2]int{}, len(a.sounds), lead, func(at [2]int) bool {
		return accepts(a.states[at[0]].accepts, b.states[at[1]].accepts)
	})
}

// smallest returns the states of the smallest automaton that accepts the same. All states must be reached from the first one.
func smallest(states []state) []state {
	// At first all states are in one class. Each round keeps those together that accept the same and whose sounds lead to the same classes.
	class := make([]int, len(states))
	for classes := 0; ; {
		var kept []state
		found := make(map[state]int, classes)
		finer := make([]int, len(states))
		for i, s := range states {
			for k, to := range s.next {
				s.next[k] = class[to]
			}
			n, ok := found[s]
			if !ok {
				n = len(kept)
				kept, found[s] = append(kept, s), n
			}
			finer[i] = n
		}
		// Classes are numbered as they are met, so as many of them as before are the same ones with the same numbers.
		if len(kept) == classes {
			return kept
		}
		class, classes = finer, len(kept)
	}
}
