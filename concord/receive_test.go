package concord_test

import (
	"strings"
	"testing"

	"concord/api"
	"concord/concord"
)

// wishing: each option wishes the same, and accepts 5 and 6; the magic is 7.
func wishing(want ...int) api.Config {
	c := goodConfig()
	for i := range c.Want {
		c.Want[i] = want
	}
	return c
}

func ask(id int, numbers ...int) string { return frame(1, id, itemsBy(numbers...)) }

func ack(id int, numbers ...int) string { return frame(2, id, itemsBy(numbers...)) }

func nak(id int, numbers ...int) string { return frame(3, id, itemsBy(numbers...)) }

// opened: an end in Opened, of goodConfig, that has sent one Request.
func opened(t *testing.T) *concord.End {
	t.Helper()
	e := asking(t, goodConfig())
	mustHear(t, e, ask(9, 6, 5, 6, 8), api.AckSent, ack(9, 6, 5, 6, 8))
	mustHear(t, e, ack(1, 5, 5, 5, 7), api.Opened)
	return e
}

// TestExample: the document's two ends.
func TestExample(t *testing.T) {
	c, d := goodConfig(), goodConfig()
	d.Magic = 8
	e, f := asking(t, c), asking(t, d)
	mustHear(t, e, ask(1, 5, 5, 5, 8), api.AckSent, ack(1, 5, 5, 5, 8))
	mustHear(t, f, ask(1, 5, 5, 5, 7), api.AckSent, ack(1, 5, 5, 5, 7))
	mustHear(t, e, ack(1, 5, 5, 5, 7), api.Opened)
	mustHear(t, f, ack(1, 5, 5, 5, 8), api.Opened)
	mustTell(t, e, api.Begins, api.IsUp)
	mustTell(t, f, api.Begins, api.IsUp)
}

// TestRequestThatIsNone: one that is not of the four items in order is as if it had not come.
func TestRequestThatIsNone(t *testing.T) {
	good := itemsBy(5, 5, 5, 8)
	for _, data := range []string{
		"", "\x01", good[:11], good + "\x00", good + good[:3], good[:9], good[3:], good[:3], itemsBy(5, 5, -1, 8), itemsBy(5, -1, 5, 8),
		good[3:6] + good[:3] + good[6:], good[:6] + good[9:] + good[6:9], good[9:] + good[:9], good[:3] + good[:3] + good[6:],
		"\x00" + good[1:], good[:9] + "\x05\x08\x00", good[:9] + "\x00\x08\x00", good + "\x05\x00\x00", good + good, strings.Repeat("\x01", 40),
	} {
		for _, e := range []*concord.End{asking(t, goodConfig()), opened(t)} {
			state := e.State()
			told := e.Told()
			mustHear(t, e, frame(1, 9, data), state)
			mustTell(t, e, told...)
		}
		e := mustMake(t, goodConfig())
		mustDo(t, e, api.Up, api.Closed, "")
		mustHear(t, e, frame(1, 9, data), api.Closed)
	}
}

// TestNaksGoRound: each option's Accept by itself, a Nak that names it taking the next one, whatever else comes between.
func TestNaksGoRound(t *testing.T) {
	c := goodConfig()
	c.Accept = [3][]int{{9, 1, 5}, {255}, {0, 200}}
	e := asking(t, c)
	mustHear(t, e, ask(1, 2, 255, 0, 8), api.ReqSent, nak(1, 9, -1, -1, -1))
	mustHear(t, e, ask(2, 2, 254, 0, 8), api.ReqSent, nak(2, 1, 255, -1, -1))
	mustHear(t, e, ask(3, 1, 511, 0, 8), api.ReqSent, nak(3, -1, 255, -1, -1))
	mustHear(t, e, ask(4, 0, 0, 1, 7), api.ReqSent, nak(4, 5, 255, 0, 0))
	mustHear(t, e, ask(5, 9, 255, 200, 8), api.AckSent, ack(5, 9, 255, 200, 8))
	mustHear(t, e, ask(6, 256, 0, 256, 8), api.ReqSent, nak(6, 9, 255, 200, -1))
	mustDo(t, e, api.Down, api.Starting, "")
	mustHear(t, e, ask(7, 2, 2, 2, 8), api.Starting)
	mustDo(t, e, api.Up, api.ReqSent, ask(2, 5, 5, 5, 7))
	mustHear(t, e, ask(8, 2, 2, 65535, 8), api.ReqSent, nak(8, 1, 255, 0, -1))
}

// TestHeeding: of a Nak what is wished is asked for, and the magic is another one.
func TestHeeding(t *testing.T) {
	e := asking(t, wishing(5, 9, 8, 0))
	for _, no := range []string{
		nak(0, 9), nak(2, 9), nak(1), frame(3, 1, "\x01\x09"), frame(3, 1, "\x01\x09\x00\x02"), frame(3, 1, "\x00\x09\x00"), frame(3, 1, "\x05\x09\x00"),
		frame(3, 1, "\x02\x09\x00\x01\x09\x00"), frame(3, 1, "\x01\x09\x00\x01\x09\x00"), frame(3, 1, "\x04\x00\x00\x01\x09\x00"), frame(3, 1, itemsBy(9, 9, 9, 0)+"\x04\x00\x00"),
	} {
		mustHear(t, e, no, api.ReqSent)
	}
	mustHear(t, e, nak(1, 9), api.ReqSent, ask(2, 9, 5, 5, 7))
	mustHear(t, e, nak(1, 8, 8, 8), api.ReqSent)
	mustHear(t, e, nak(2, 7, 8, 265), api.ReqSent, ask(3, 9, 8, 5, 7)) // 7 and 265 are not wished
	mustHear(t, e, nak(3, -1, 2048, 0), api.ReqSent, ask(4, 9, 8, 0, 7))
	mustHear(t, e, nak(4, 5, -1, -1, 0), api.ReqSent, ask(5, 5, 8, 0, 38))
	mustHear(t, e, nak(5, -1, -1, -1, 9999), api.ReqSent, ask(6, 5, 8, 0, 193))
	mustHear(t, e, nak(6, 1), api.ReqSent, ask(7, 5, 8, 0, 193))
	mustHear(t, e, ack(7, 5, 8, 0, 193), api.AckRcvd)
}

// TestHeedingInEveryState: a Nak for the last Request is heeded where it leads to no Request too; the next one has it.
func TestHeedingInEveryState(t *testing.T) {
	e := asking(t, wishing(5, 9, 8))
	mustDo(t, e, api.Close, api.Closing, endFrame(2))
	mustHear(t, e, nak(2, 8), api.Closing) // the ID of the End
	mustHear(t, e, nak(1, 9), api.Closing)
	mustHear(t, e, nak(1, -1, -1, -1, 1), api.Closing)
	if asked, _ := e.Agreed(); asked != (api.Terms{5, 5, 5}) {
		t.Errorf("P9: %v was asked for by the last Request that was sent", asked)
	}
	mustHear(t, e, frame(6, 2, ""), api.Closed)
	mustHear(t, e, nak(1, -1, 8), api.Closed, frame(6, 1, ""))
	mustDo(t, e, api.Down, api.Initial, "")
	mustHear(t, e, nak(1, -1, -1, -1, 0), api.Initial)
	mustDo(t, e, api.Open, api.Starting, "")
	mustHear(t, e, nak(1, -1, -1, 9), api.Starting)
	mustDo(t, e, api.Up, api.ReqSent, ask(3, 9, 8, 9, 193))
	if asked, _ := e.Agreed(); asked != (api.Terms{9, 8, 9}) {
		t.Errorf("P9: %v was asked for by the last Request that was sent", asked)
	}
}

// TestAcks: that of the last Request, whole, and of no other.
func TestAcks(t *testing.T) {
	e := asking(t, wishing(5, 9))
	for _, no := range []string{
		ack(0, 5, 5, 5, 7), ack(2, 5, 5, 5, 7), ack(1, 5, 5, 5, 8), ack(1, 9, 5, 5, 7), ack(1, 5, 5, 6, 7), ack(1, 5, 5, 5), ack(1),
		frame(2, 1, itemsBy(5, 5, 5, 7)+"\x00"), frame(2, 1, itemsBy(5, 5, 5, 7)+itemsBy(5)),
	} {
		mustHear(t, e, no, api.ReqSent)
	}
	mustHear(t, e, nak(1, 9), api.ReqSent, ask(2, 9, 5, 5, 7))
	mustHear(t, e, ack(1, 5, 5, 5, 7), api.ReqSent)
	mustHear(t, e, ack(2, 5, 5, 5, 7), api.ReqSent)
	mustHear(t, e, ack(1, 9, 5, 5, 7), api.ReqSent)
	mustHear(t, e, ack(2, 9, 5, 5, 7), api.AckRcvd)
	mustHear(t, e, ack(2, 9, 5, 5, 7), api.ReqSent, ask(3, 9, 5, 5, 7))
}

// TestAnswersToNothing: Acks and Naks of an end that has sent no Request, those of the ID 0 among them; and of one that has sent the Request 0.
func TestAnswersToNothing(t *testing.T) {
	e := mustMake(t, goodConfig())
	mustDo(t, e, api.Up, api.Closed, "")
	for id := range 256 {
		mustHear(t, e, frame(2, id, "")+ack(id, 0, 0, 0, 0)+ack(id, 5, 5, 5, 7)+nak(id, 6)+nak(id, -1, -1, -1, 0), api.Closed)
	}
	for range 127 {
		e.Event(api.Open)
		e.Event(api.Close)
		e.Event(api.Down)
		e.Event(api.Up)
	}
	mustDo(t, e, api.Open, api.ReqSent, ask(255, 5, 5, 5, 7))
	mustHear(t, e, ack(0, 5, 5, 5, 7), api.ReqSent)
	for range 2 {
		mustDo(t, e, api.Tick, api.ReqSent, "")
	}
	mustDo(t, e, api.Tick, api.ReqSent, ask(0, 5, 5, 5, 7))
	mustHear(t, e, nak(0, 1), api.ReqSent, ask(1, 5, 5, 5, 7))
	mustHear(t, e, nak(0, 1), api.ReqSent)
}

// TestUnknownCodes: their own row of IDs, through 255 and 0, and at most 40 bytes.
func TestUnknownCodes(t *testing.T) {
	e := opened(t)
	for i := range 600 {
		code := []int{4, 8, 11, 12, 125, 126, 127, 254, 255}[i%9]
		data := strings.Repeat("}a~", 14)[:i%41]
		want := string([]byte{byte(code), byte(i)}) + data
		mustHear(t, e, frame(code, i%256, data), api.Opened, frame(7, (i+1)%256, want[:min(40, len(want))]))
	}
	mustDo(t, e, api.Close, api.Closing, endFrame(2))
}

// TestLoops: a fourth Request with a magic that the end has or had, of those that would get a Nak.
func TestLoops(t *testing.T) {
	e := asking(t, goodConfig())
	mustHear(t, e, ask(9, 5, 5, 5, 7), api.ReqSent, nak(9, -1, -1, -1, 0))
	mustHear(t, e, nak(1, -1, -1, -1, 0), api.ReqSent, ask(2, 5, 5, 5, 38))
	mustHear(t, e, ask(9, 4, 5, 5, 7), api.ReqSent, nak(9, 5, -1, -1, 0))
	mustHear(t, e, ask(9, 4, 5, 5, 8), api.ReqSent, nak(9, 6, -1, -1, -1)) // not of this end
	mustHear(t, e, ask(9, 5, 6, 5, 8), api.AckSent, ack(9, 5, 6, 5, 8))
	mustHear(t, e, ack(2, 5, 5, 5, 38), api.Opened)
	mustHear(t, e, ask(10, 5, 5, 5, 38), api.ReqSent, ask(3, 5, 5, 5, 38), nak(10, -1, -1, -1, 0))
	mustHear(t, e, ask(11, 4, 5, 5, 8), api.ReqSent, nak(11, 5, -1, -1, -1))
	mustHear(t, e, ask(12, 5, 6, 5, 8), api.AckSent, ack(12, 5, 6, 5, 8))
	mustHear(t, e, ack(3, 5, 5, 5, 38), api.Opened)
	mustHear(t, e, ask(13, 5, 5, 5, 7), api.Closing, endFrame(4))
	mustTell(t, e, api.Begins, api.IsUp, api.IsDown, api.IsUp, api.Loops, api.IsDown)
	// in Closing none is counted or told
	mustHear(t, e, ask(14, 5, 5, 5, 7), api.Closing)
	mustHear(t, e, frame(6, 4, ""), api.Closed)
	mustHear(t, e, ask(15, 5, 5, 5, 7), api.Closed, frame(6, 15, ""))
	// since New: a new line does not make it forget
	mustDo(t, e, api.Open, api.ReqSent, ask(5, 5, 5, 5, 38))
	mustHear(t, e, ask(16, 5, 5, 5, 38), api.Closing, endFrame(6))
	mustTell(t, e, api.Begins, api.IsUp, api.IsDown, api.IsUp, api.Loops, api.IsDown, api.Finished, api.Loops)
}

// TestLoopsAreCountedWhereNaksAre: in the other states a Request of one's own counts nothing.
func TestLoopsAreCountedWhereNaksAre(t *testing.T) {
	own := ask(9, 5, 5, 5, 7)
	e := mustMake(t, goodConfig())
	mustHear(t, e, own+own+own+own, api.Initial)
	mustDo(t, e, api.Up, api.Closed, "")
	mustHear(t, e, own+own, api.Closed, frame(6, 9, ""), frame(6, 9, ""))
	mustDo(t, e, api.Open, api.ReqSent, ask(1, 5, 5, 5, 7))
	mustDo(t, e, api.Close, api.Closing, endFrame(2))
	mustHear(t, e, own+own+own+own, api.Closing)
	mustDo(t, e, api.Open, api.Stopping, "")
	mustHear(t, e, own+own+own+own, api.Stopping)
	mustHear(t, e, frame(6, 2, ""), api.Stopped)
	no := nak(9, -1, -1, -1, 0)
	mustHear(t, e, own, api.ReqSent, ask(3, 5, 5, 5, 7), no)
	mustHear(t, e, own, api.ReqSent, no)
	mustHear(t, e, ack(3, 5, 5, 5, 7), api.AckRcvd)
	mustHear(t, e, own, api.AckRcvd, no)
	mustHear(t, e, frame(7, 1, "\x01"), api.Stopped)
	// what Close says in Stopped
	mustHear(t, e, own, api.Closed)
	mustTell(t, e, api.Finished, api.Finished, api.Loops)
}

// TestGivesUp: 20 Naks since New, since the last Ack, and since the last IsUp.
func TestGivesUp(t *testing.T) {
	bad := ask(9, 5, 5, 4, 8)
	naks := func(e *concord.End, all, state int) {
		t.Helper()
		for i := range all {
			if b := string(e.Bytes([]byte(bad))); e.State() != state || b != nak(9, -1, -1, 5) && b != nak(9, -1, -1, 6) {
				t.Fatalf("P8: the Nak %d: sent %x, state %d", i+1, b, e.State())
			}
		}
	}
	e := asking(t, goodConfig())
	naks(e, 20, api.ReqSent)
	mustHear(t, e, bad, api.Closing, endFrame(2))
	mustTell(t, e, api.Begins, api.GivesUp)
	// no Ack and no IsUp since: the next one is too many at once
	mustDo(t, e, api.Down, api.Initial, "")
	mustDo(t, e, api.Up, api.Closed, "")
	mustDo(t, e, api.Open, api.ReqSent, ask(3, 5, 5, 5, 7))
	mustHear(t, e, ack(3, 5, 5, 5, 7), api.AckRcvd)
	mustHear(t, e, bad, api.Closing, endFrame(4))
	mustTell(t, e, api.Begins, api.GivesUp, api.GivesUp)

	e = asking(t, goodConfig())
	naks(e, 19, api.ReqSent)
	mustHear(t, e, ask(9, 5, 5, 5, 8), api.AckSent, ack(9, 5, 5, 5, 8)) // an Ack
	naks(e, 20, api.ReqSent)
	mustHear(t, e, ack(1, 5, 5, 5, 7), api.AckRcvd)
	mustHear(t, e, ask(9, 5, 5, 5, 8), api.Opened, ack(9, 5, 5, 5, 8)) // an Ack and IsUp
	mustHear(t, e, bad, api.ReqSent, ask(2, 5, 5, 5, 7), nak(9, -1, -1, 6))
	naks(e, 19, api.ReqSent)
	mustHear(t, e, frame(7, 1, "\x01"), api.Stopped)
	// what Close says in Stopped
	mustHear(t, e, bad, api.Closed)
	mustTell(t, e, api.Begins, api.IsUp, api.IsDown, api.Finished, api.GivesUp)
}

// TestLoopsComeFirst: of both reasons to close, and a Request of one's own gives up too as long as it is not the fourth.
func TestLoopsComeFirst(t *testing.T) {
	own, bad := ask(9, 5, 5, 5, 7), ask(9, 5, 5, 4, 8)
	for _, c := range []struct{ ahead, told int }{{2, api.GivesUp}, {3, api.Loops}} {
		e := asking(t, goodConfig())
		for range c.ahead {
			mustHear(t, e, own, api.ReqSent, nak(9, -1, -1, -1, 0))
		}
		for range 20 - c.ahead {
			e.Bytes([]byte(bad))
		}
		mustHear(t, e, own, api.Closing, endFrame(2))
		mustTell(t, e, api.Begins, c.told)
		// the one that gave up was counted
		mustDo(t, e, api.Down, api.Initial, "")
		mustDo(t, e, api.Up, api.Closed, "")
		mustDo(t, e, api.Open, api.ReqSent, ask(3, 5, 5, 5, 7))
		mustHear(t, e, own, api.Closing, endFrame(4))
		mustTell(t, e, api.Begins, c.told, api.Loops)
	}
}

// TestMagicsOfLongAgo: the magic goes through all numbers, 0 too, and an end knows all that it had.
func TestMagicsOfLongAgo(t *testing.T) {
	for _, changes := range []int{0, 1, 2, 1000, 65534, 65535, 65536, 65600} {
		magics := []int{7}
		e := asking(t, goodConfig())
		for i := range changes {
			magics = append(magics, (5*magics[i]+3)%65536)
			mustHear(t, e, nak((i+1)%256, -1, -1, -1, 0), api.ReqSent, ask((i+2)%256, 5, 5, 5, magics[i+1]))
		}
		for _, old := range []int{magics[0], magics[len(magics)/2], magics[len(magics)-1]} {
			mustHear(t, e, ask(9, 5, 5, 5, old), api.ReqSent, nak(9, -1, -1, -1, 0))
		}
		next := (5*magics[changes] + 3) % 65536
		if changes < 65535 {
			mustHear(t, e, ask(9, 5, 5, 5, next), api.AckSent, ack(9, 5, 5, 5, next))
		} else {
			mustHear(t, e, ask(9, 5, 5, 5, next), api.Closing, endFrame((changes+2)%256))
		}
	}
}

// TestEnds: a link that the other end wishes to end, and one that this end does.
func TestEnds(t *testing.T) {
	e := opened(t)
	mustHear(t, e, frame(5, 200, ""), api.Stopping, frame(6, 200, ""))
	mustDo(t, e, api.Tick, api.Stopping, "")
	mustDo(t, e, api.Tick, api.Stopping, "")
	mustDo(t, e, api.Tick, api.Stopped, "")
	mustTell(t, e, api.Begins, api.IsUp, api.IsDown, api.Finished)

	e = opened(t)
	mustDo(t, e, api.Close, api.Closing, endFrame(2))
	mustHear(t, e, frame(6, 99, "any"), api.Closed)
	mustTell(t, e, api.Begins, api.IsUp, api.IsDown, api.Finished)

	e = opened(t)
	mustHear(t, e, frame(7, 1, "\x06"), api.Stopping, endFrame(2))
	for range 2 {
		mustDo(t, e, api.Tick, api.Stopping, "")
	}
	mustDo(t, e, api.Tick, api.Stopping, endFrame(3))
	for range 2 {
		mustDo(t, e, api.Tick, api.Stopping, "")
	}
	mustDo(t, e, api.Tick, api.Stopped, "")
	mustTell(t, e, api.Begins, api.IsUp, api.IsDown, api.Finished)
}

// TestTimerBehindPackets: what answers a Request sets the counter, and leaves the timer where it is.
func TestTimerBehindPackets(t *testing.T) {
	e := asking(t, goodConfig())
	for range 14 {
		e.Event(api.Tick) // the Requests 2 to 5
	}
	mustHear(t, e, ack(5, 5, 5, 5, 7), api.AckRcvd)
	mustDo(t, e, api.Tick, api.ReqSent, ask(6, 5, 5, 5, 7))
	for id := 7; id <= 10; id++ {
		mustDo(t, e, api.Tick, api.ReqSent, "")
		mustDo(t, e, api.Tick, api.ReqSent, "")
		if id < 10 {
			mustDo(t, e, api.Tick, api.ReqSent, ask(id, 5, 5, 5, 7))
		}
	}
	mustHear(t, e, ask(1, 5, 5, 5, 8), api.AckSent, ack(1, 5, 5, 5, 8))
	mustDo(t, e, api.Tick, api.AckSent, ask(10, 5, 5, 5, 7))
}

// TestAgreed: of the last Request that was sent, and of the last one that an Ack was sent for.
func TestAgreed(t *testing.T) {
	mustAgree := func(e *concord.End, asked, agreed api.Terms) {
		t.Helper()
		if a, b := e.Agreed(); a != asked || b != agreed {
			t.Fatalf("P9: Agreed() = %v, %v, want %v, %v", a, b, asked, agreed)
		}
	}
	c := goodConfig()
	c.Want = [3][]int{{1, 5}, {0, 6}, {255}}
	c.Accept = [3][]int{{0, 2}, {3, 255}, {4, 5}}
	e := mustMake(t, c)
	mustAgree(e, api.Terms{}, api.Terms{})
	mustDo(t, e, api.Up, api.Closed, "")
	mustHear(t, e, ask(9, 2, 3, 4, 8), api.Closed, frame(6, 9, "")) // no Ack
	mustAgree(e, api.Terms{}, api.Terms{})
	mustDo(t, e, api.Open, api.ReqSent, ask(1, 1, 0, 255, 7))
	mustAgree(e, api.Terms{1, 0, 255}, api.Terms{})
	mustHear(t, e, ask(9, 2, 3, 6, 8), api.ReqSent, nak(9, -1, -1, 4)) // none either
	mustAgree(e, api.Terms{1, 0, 255}, api.Terms{})
	mustHear(t, e, ask(9, 2, 255, 4, 8), api.AckSent, ack(9, 2, 255, 4, 8))
	mustAgree(e, api.Terms{1, 0, 255}, api.Terms{2, 255, 4})
	mustHear(t, e, nak(1, 5, 6, 7), api.AckSent, ask(2, 5, 6, 255, 7))
	mustAgree(e, api.Terms{5, 6, 255}, api.Terms{2, 255, 4})
	mustHear(t, e, ack(2, 5, 6, 255, 7), api.Opened)
	mustAgree(e, api.Terms{5, 6, 255}, api.Terms{2, 255, 4})
	mustHear(t, e, ask(10, 0, 3, 5, 8), api.AckSent, ask(3, 5, 6, 255, 7), ack(10, 0, 3, 5, 8))
	mustAgree(e, api.Terms{5, 6, 255}, api.Terms{0, 3, 5})
	// an end of the link does not take them away
	mustDo(t, e, api.Close, api.Closing, endFrame(4))
	mustHear(t, e, ask(11, 2, 3, 4, 8), api.Closing)
	mustDo(t, e, api.Down, api.Initial, "")
	mustAgree(e, api.Terms{5, 6, 255}, api.Terms{0, 3, 5})
}
