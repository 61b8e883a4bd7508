package concord

import (
	"concord/api"
	"concord/line"
)

// action is one of the things that an end does at an event. The remark at each is its name in the document's table.
type action func()

// do does them in their order, which is that of what is told and sent.
func (e *End) do(actions []action) {
	for _, act := range actions {
		act()
	}
}

// enter: the state behind an event.
func (e *End) enter(state int) action {
	return func() { e.state = state }
}

// tld
func (e *End) tellDown() { e.tell(api.IsDown) }

// tls
func (e *End) tellBegin() { e.tell(api.Begins) }

// tlf
func (e *End) tellFinish() { e.tell(api.Finished) }

func (e *End) tell(what int) { e.told = append(e.told, what) }

// irc
func (e *End) countRequests() { e.counter = api.Requests }

// irt
func (e *End) countEnds() { e.counter = api.Ends }

// scr
func (e *End) sendRequest() { e.sendCounted(api.Request, e.asking()) }

// str
func (e *End) sendEnd() { e.sendCounted(api.End, "") }

// sendCounted sends what is sent again if no answer comes. Requests and Ends share its row of IDs, which leans on a byte's wrap-round.
func (e *End) sendCounted(code int, data string) {
	e.counter--
	e.timer = api.Period
	e.id++
	e.send(api.Packet{Code: code, ID: int(e.id), Data: data})
}

func (e *End) send(p api.Packet) { e.sent = append(e.sent, line.Write(p)...) }

// takeSent gives what was sent away: it is its new owner's.
func (e *End) takeSent() []byte {
	sent := e.sent
	e.sent = nil
	return sent
}
