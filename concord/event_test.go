package concord_test

import (
	"math"
	"slices"
	"strings"
	"testing"

	"concord/api"
	"concord/concord"
)

// starting: an end in Starting, of a configuration.
func starting(t *testing.T, c api.Config) *concord.End {
	t.Helper()
	e := mustMake(t, c)
	mustDo(t, e, api.Open, api.Starting, "")
	return e
}

// mustDo: an event, the state behind it, and what is sent.
func mustDo(t *testing.T, e *concord.End, kind, state int, sent string) {
	t.Helper()
	from := e.State()
	got := string(e.Event(kind))
	if got != sent || e.State() != state {
		t.Fatalf("P7: event %d in the state %d: sent %x, state %d; want %x, %d", kind, from, got, e.State(), sent, state)
	}
}

func mustTell(t *testing.T, e *concord.End, want ...int) {
	t.Helper()
	if told := e.Told(); !slices.Equal(told, want) {
		t.Fatalf("P7: Told() = %v, want %v", told, want)
	}
}

func requestFrame(id int, data string) string {
	return frameBy(api.Packet{Code: 1, ID: id, Data: data})
}

func endFrame(id int) string {
	return frameBy(api.Packet{Code: 5, ID: id})
}

// TestEventByHand: the document's example, with bytes that are reckoned by hand.
func TestEventByHand(t *testing.T) {
	e := starting(t, goodConfig())
	mustTell(t, e, api.Begins)
	b := string(e.Event(api.Up))
	p, err := concord.Unframe([]byte(strings.Trim(b, "~")))
	want := api.Packet{Code: 1, ID: 1, Data: "\x01\x05\x00\x02\x05\x00\x03\x05\x00\x04\x07\x00"}
	if err != api.OK || p != want || b != frameBy(want) || e.State() != api.ReqSent {
		t.Errorf("P7, P8: Up in Starting: %x, state %d; want the Request %#v", b, e.State(), want)
	}
	mustTell(t, e, api.Begins)
	// (1*17+5)*17+2 = 376 = 0x178
	mustDo(t, e, api.Close, api.Closing, "\x7e\x05\x02\x78\x01\x7e")
	mustTell(t, e, api.Begins)
}

func TestUnknownEventsDoNothing(t *testing.T) {
	reach := [][]int{{}, {api.Open}, {api.Up}, {api.Up, api.Open}, {api.Up, api.Open, api.Close}, {api.Up, api.Open, api.Close, api.Open}}
	for state, events := range reach {
		c := goodConfig()
		e, m := mustMake(t, c), modelOf(c)
		for _, kind := range events {
			step(t, e, m, kind, state)
		}
		for _, kind := range []int{0, -1, -5, 6, 7, 9, 255, 256, 257, 261, 1<<32 + 1, 1<<32 + 5, 100, 105, math.MinInt, math.MinInt + 3, math.MaxInt} {
			step(t, e, m, kind, events)
		}
		for range 30 {
			step(t, e, m, api.Tick, events)
		}
	}
}

// TestRequestData: the first of each Want, whatever else there is, and the magic, the lower byte first.
func TestRequestData(t *testing.T) {
	for _, c := range []struct {
		want  [3][]int
		magic int
		data  string
	}{
		{[3][]int{{1}, {2}, {3}}, 1, "\x01\x01\x00\x02\x02\x00\x03\x03\x00\x04\x01\x00"},
		{[3][]int{{255, 0}, {0, 255}, {9, 8, 7, 6, 5, 4, 3, 2}}, 65535, "\x01\xff\x00\x02\x00\x00\x03\x09\x00\x04\xff\xff"},
		{[3][]int{{126, 1}, {125, 2}, {200, 3}}, 126*256 + 125, "\x01\x7e\x00\x02\x7d\x00\x03\xc8\x00\x04\x7d\x7e"},
		{[3][]int{{0}, {0}, {0}}, 256, "\x01\x00\x00\x02\x00\x00\x03\x00\x00\x04\x00\x01"},
		{[3][]int{{6}, {5}, {4}}, 255, "\x01\x06\x00\x02\x05\x00\x03\x04\x00\x04\xff\x00"},
	} {
		config := goodConfig()
		config.Want, config.Magic = c.want, c.magic
		e := starting(t, config)
		mustDo(t, e, api.Up, api.ReqSent, requestFrame(1, c.data))
		mustDo(t, e, api.Tick, api.ReqSent, "")
		mustDo(t, e, api.Tick, api.ReqSent, "")
		mustDo(t, e, api.Tick, api.ReqSent, requestFrame(2, c.data))
	}
}

// TestRequestsRunOut: 5 of them, 3 ticks each, and the same again behind a new line.
func TestRequestsRunOut(t *testing.T) {
	data := requestBy(goodConfig())
	e := starting(t, goodConfig())
	for id := 1; id <= 10; id++ {
		if id == 6 {
			mustTell(t, e, api.Begins, api.Finished)
			mustDo(t, e, api.Tick, api.Stopped, "")
			mustDo(t, e, api.Down, api.Starting, "")
		}
		if id == 1 || id == 6 {
			mustDo(t, e, api.Up, api.ReqSent, requestFrame(id, data))
		} else {
			mustDo(t, e, api.Tick, api.ReqSent, requestFrame(id, data))
		}
		mustDo(t, e, api.Tick, api.ReqSent, "")
		mustDo(t, e, api.Tick, api.ReqSent, "")
		if id == 5 || id == 10 {
			mustDo(t, e, api.Tick, api.Stopped, "")
		}
	}
	mustTell(t, e, api.Begins, api.Finished, api.Begins, api.Finished)
}

// TestEndsRunOut: 2 of them, whether the counter stood high or low when Close came.
func TestEndsRunOut(t *testing.T) {
	data := requestBy(goodConfig())
	for _, ahead := range []int{0, 1, 2, 3, 11, 12, 13, 14} {
		e := starting(t, goodConfig())
		mustDo(t, e, api.Up, api.ReqSent, requestFrame(1, data))
		for range ahead {
			e.Event(api.Tick)
		}
		id := 2 + ahead/3
		mustDo(t, e, api.Close, api.Closing, endFrame(id))
		mustDo(t, e, api.Tick, api.Closing, "")
		mustDo(t, e, api.Tick, api.Closing, "")
		mustDo(t, e, api.Tick, api.Closing, endFrame(id+1))
		mustDo(t, e, api.Tick, api.Closing, "")
		mustDo(t, e, api.Tick, api.Closing, "")
		mustTell(t, e, api.Begins)
		mustDo(t, e, api.Tick, api.Closed, "")
		mustTell(t, e, api.Begins, api.Finished)
		mustDo(t, e, api.Open, api.ReqSent, requestFrame(id+2, data))
	}
}

// TestOneRowOfIDs: Requests and Ends in turn, through 255 and 0, and through the IDs that are escaped.
func TestOneRowOfIDs(t *testing.T) {
	data := requestBy(goodConfig())
	e := mustMake(t, goodConfig())
	for i := 1; i < 700; i += 2 {
		mustDo(t, e, api.Up, api.Closed, "")
		mustDo(t, e, api.Open, api.ReqSent, requestFrame(i%256, data))
		mustDo(t, e, api.Close, api.Closing, endFrame((i+1)%256))
		mustDo(t, e, api.Down, api.Initial, "")
	}
	mustTell(t, e)
}

// TestTimerStandsStill: no tick counts in a state in which there is nothing to wait for.
func TestTimerStandsStill(t *testing.T) {
	data := requestBy(goodConfig())
	e := starting(t, goodConfig())
	mustDo(t, e, api.Up, api.ReqSent, requestFrame(1, data))
	mustDo(t, e, api.Tick, api.ReqSent, "")
	mustDo(t, e, api.Tick, api.ReqSent, "")
	mustDo(t, e, api.Down, api.Starting, "")
	for range 9 {
		mustDo(t, e, api.Tick, api.Starting, "")
	}
	mustDo(t, e, api.Up, api.ReqSent, requestFrame(2, data))
	mustDo(t, e, api.Tick, api.ReqSent, "")
	mustDo(t, e, api.Tick, api.ReqSent, "")
	mustDo(t, e, api.Tick, api.ReqSent, requestFrame(3, data))
}
