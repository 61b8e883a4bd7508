package concord

import (
	"concord/api"
	"concord/line"
	"concord/terms"
)

// action is one of the things that an end does at an event. The remark at each is its name in the document's table. Those that answer a packet are made for that packet.
type action func()

// do does them in their order, which is that of what is told and sent.
func (e *End) do(actions []action) {
	for _, act := range actions {
		act()
	}
}

// enter: the state behind an event.
func (e *End) enter(state int) action {
	return func() { e.state = state }
}

// tlu
func (e *End) tellUp() {
	e.naks = 0
	e.tell(api.IsUp)
}

// tld
func (e *End) tellDown() { e.tell(api.IsDown) }

// tls
func (e *End) tellBegin() { e.tell(api.Begins) }

// tlf
func (e *End) tellFinish() { e.tell(api.Finished) }

func (e *End) tellGiveUp() { e.tell(api.GivesUp) }

func (e *End) tellLoop() { e.tell(api.Loops) }

func (e *End) tell(what int) { e.told = append(e.told, what) }

// irc
func (e *End) countRequests() { e.counter = api.Requests }

// irt
func (e *End) countEnds() { e.counter = api.Ends }

// zrc
func (e *End) countNone() { e.counter, e.timer = 0, api.Period }

// scr
func (e *End) sendRequest() {
	e.proposed = e.asked
	e.last = e.sendCounted(api.Request, e.asking())
}

// str
func (e *End) sendEnd() { e.sendCounted(api.End, "") }

// sendCounted sends what is sent again if no answer comes. Requests and Ends share its row of IDs, which leans on a byte's wrap-round.
func (e *End) sendCounted(code int, data string) api.Packet {
	e.counter--
	e.timer = api.Period
	e.id++
	p := api.Packet{Code: code, ID: int(e.id), Data: data}
	e.send(p)
	return p
}

// sca
func (e *End) sendAck(r request) action {
	return func() {
		e.naks = 0
		e.accepted = terms.Options(r.items)
		e.send(api.Packet{Code: api.Ack, ID: r.ID, Data: r.Data})
	}
}

// scn
func (e *End) sendNak(r request) action {
	return func() {
		e.naks++
		e.send(api.Packet{Code: api.Nak, ID: r.ID, Data: e.naming(r.bad)})
	}
}

// sta
func (e *End) sendEndAck(p api.Packet) action {
	return func() { e.send(api.Packet{Code: api.EndAck, ID: p.ID}) }
}

// scj
func (e *End) sendUnknown(p api.Packet) action {
	return func() {
		e.unknownID++
		e.send(api.Packet{Code: api.Unknown, ID: int(e.unknownID), Data: quote(p)})
	}
}

// quote is as much of a packet as goes into another one's data.
func quote(p api.Packet) string {
	s := string([]byte{byte(p.Code), byte(p.ID)}) + p.Data
	return s[:min(len(s), api.MaxData)]
}

// ser
func (e *End) sendReply(p api.Packet) action {
	return func() { e.send(api.Packet{Code: api.Reply, ID: p.ID, Data: p.Data}) }
}

func (e *End) send(p api.Packet) { e.sent = append(e.sent, line.Write(p)...) }

// takeSent gives what was sent away: it is its new owner's.
func (e *End) takeSent() []byte {
	sent := e.sent
	e.sent = nil
	return sent
}
