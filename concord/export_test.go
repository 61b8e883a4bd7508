package concord

// Put lays an end into a state, with a counter and a timer: into those too that no event alone leads to.
func Put(e *End, state, counter, timer int) {
	e.state, e.counter, e.timer = state, counter, timer
}

// Lists are what an end keeps of the configuration's lists.
func Lists(e *End) (want, accept [3][]int) {
	return e.want, e.accept
}
