// Package concord: the end of a link that comes to terms with the other: see DOC.md.
package concord

import (
	"errors"
	"slices"

	"concord/api"
	"concord/line"
	"concord/terms"
)

// Frame makes a packet's bytes on a line (P3).
func Frame(p api.Packet) ([]byte, api.Errno) {
	if !line.IsPacket(p) {
		return nil, api.ErrPacket
	}
	return line.Write(p), api.OK
}

// Unframe reads a packet from what stands between two flags (P4).
func Unframe(b []byte) (api.Packet, api.Errno) {
	p, err := line.Read(b)
	return p, errnoOf(err)
}

// errnoOf: every way not to be a frame has one number, so the type is asked for; the sum is one of the ways not to be a content, so the value is.
func errnoOf(err error) api.Errno {
	var frame *line.FrameError
	switch {
	case err == nil:
		return api.OK
	case errors.As(err, &frame):
		return api.ErrFrame
	case errors.Is(err, line.ErrSum):
		return api.ErrSum
	}
	return api.ErrPacket
}

// End is the end of a link.
type End struct {
	wishes
	state     int
	counter   int
	timer     int
	id        byte       // of the last Request or End that was sent
	unknownID byte       // of the last Unknown that was sent
	last      api.Packet // the last Request that was sent; its Code is 0 if none was
	proposed  api.Terms  // of that one
	accepted  api.Terms  // of the last Request that an Ack was sent for
	naks      int        // that were sent since the last Ack and the last IsUp
	turns     int        // of Requests with a magic of this end, where each gets a Nak
	told      []int
	gathered  []byte // from the line, since the last flag
	sent      []byte // by the call that is under way
}

// New makes an end (P5).
func New(c api.Config) (*End, api.Errno) {
	if !terms.IsConfig(c) {
		return nil, api.ErrConfig
	}
	return &End{wishes: wishesOf(c), state: api.Initial}, api.OK
}

// Event tells an end something; what it sends (P7).
func (e *End) Event(kind int) []byte {
	e.do(e.at(kind))
	return e.takeSent()
}

// Bytes gives an end bytes from the line; what it sends (P6, P8).
func (e *End) Bytes(b []byte) []byte {
	for _, c := range b {
		e.take(c)
	}
	return e.takeSent()
}

// State tells the state (P7).
func (e *End) State() int { return e.state }

// Told tells all that the end has told so far (P7).
func (e *End) Told() []int { return slices.Clone(e.told) }

// Agreed tells the terms on which the other end agreed, and those on which this end did (P9).
func (e *End) Agreed() (api.Terms, api.Terms) { return e.proposed, e.accepted }
