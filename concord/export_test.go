package concord

// Put lays an end into a state, with a counter and a timer: into such too that nothing leads to.
func Put(e *End, state, counter, timer int) {
	e.state, e.counter, e.timer = state, counter, timer
}
