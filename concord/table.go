package concord

import "concord/api"

// The table of states, row by row: what an end does at an event, in the state in which it is. A state that does what others do, and something more ahead of that, falls through to them. In a state that a row does not name nothing is done.

func (e *End) at(kind int) []action {
	switch kind {
	case api.Up:
		return e.atUp()
	case api.Down:
		return e.atDown()
	case api.Open:
		return e.atOpen()
	case api.Close:
		return e.atClose()
	case api.Tick:
		return e.atTick()
	}
	return nil
}

func (e *End) atUp() (does []action) {
	switch e.state {
	case api.Initial:
		does = []action{e.enter(api.Closed)}
	case api.Starting:
		does = []action{e.countRequests, e.sendRequest, e.enter(api.ReqSent)}
	}
	return does
}

func (e *End) atDown() (does []action) {
	switch e.state {
	case api.Closed, api.Closing:
		does = []action{e.enter(api.Initial)}
	case api.Stopped:
		does = []action{e.tellBegin, e.enter(api.Starting)}
	case api.Opened:
		does = []action{e.tellDown}
		fallthrough
	case api.Stopping, api.ReqSent, api.AckRcvd, api.AckSent:
		does = append(does, e.enter(api.Starting))
	}
	return does
}

func (e *End) atOpen() (does []action) {
	switch e.state {
	case api.Initial:
		does = []action{e.tellBegin, e.enter(api.Starting)}
	case api.Closed:
		does = []action{e.countRequests, e.sendRequest, e.enter(api.ReqSent)}
	case api.Closing:
		does = []action{e.enter(api.Stopping)}
	}
	return does
}

func (e *End) atClose() (does []action) {
	switch e.state {
	case api.Starting:
		does = []action{e.tellFinish, e.enter(api.Initial)}
	case api.Stopped:
		does = []action{e.enter(api.Closed)}
	case api.Stopping:
		does = []action{e.enter(api.Closing)}
	case api.Opened:
		does = []action{e.tellDown}
		fallthrough
	case api.ReqSent, api.AckRcvd, api.AckSent:
		does = append(does, e.countEnds, e.sendEnd, e.enter(api.Closing))
	}
	return does
}

// atTick leads to one of the two rows of a timer that has run out.
func (e *End) atTick() []action {
	if e.state < api.Closing || e.state > api.AckSent || e.timer == 0 {
		return nil
	}
	e.timer--
	switch {
	case e.timer > 0:
		return nil
	case e.counter > 0:
		return e.atTimeout()
	}
	return e.atLastTimeout()
}

// atTimeout: TO+
func (e *End) atTimeout() (does []action) {
	switch e.state {
	case api.Closing, api.Stopping:
		does = []action{e.sendEnd}
	case api.ReqSent, api.AckSent:
		does = []action{e.sendRequest}
	case api.AckRcvd:
		does = []action{e.sendRequest, e.enter(api.ReqSent)}
	}
	return does
}

// atLastTimeout: TO-
func (e *End) atLastTimeout() (does []action) {
	switch e.state {
	case api.Closing:
		does = []action{e.tellFinish, e.enter(api.Closed)}
	case api.Stopping, api.ReqSent, api.AckRcvd, api.AckSent:
		does = []action{e.tellFinish, e.enter(api.Stopped)}
	}
	return does
}
