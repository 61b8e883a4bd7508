package concord_test

import (
	"strings"
	"testing"

	"concord/api"
	"concord/concord"
)

// asking: an end in ReqSent that has sent its Request 1.
func asking(t *testing.T, c api.Config) *concord.End {
	t.Helper()
	e := starting(t, c)
	mustDo(t, e, api.Up, api.ReqSent, requestFrame(1, requestBy(c)))
	return e
}

// mustHear: bytes from the line, the state behind them, and what is sent.
func mustHear(t *testing.T, e *concord.End, b string, state int, sent ...string) {
	t.Helper()
	from := e.State()
	got := string(e.Bytes([]byte(b)))
	if want := strings.Join(sent, ""); got != want || e.State() != state {
		t.Fatalf("P6, P8: bytes %x in the state %d: sent %x, state %d; want %x, %d", b, from, got, e.State(), want, state)
	}
}

func frame(code, id int, data string) string {
	return frameBy(api.Packet{Code: code, ID: id, Data: data})
}

// TestBytesByHand: an Ack, and the answer to a Request, with bytes that are reckoned by hand.
func TestBytesByHand(t *testing.T) {
	e := mustMake(t, goodConfig())
	mustDo(t, e, api.Up, api.Closed, "")
	// an End 3: (1*17+5)*17+3 = 377 = 0x179; the EndAck: (1*17+6)*17+3 = 394 = 0x18a
	mustHear(t, e, "\x7e\x05\x03\x79\x01\x7e", api.Closed, "\x7e\x06\x03\x8a\x01\x7e")
	// the code 4, ID 5: (1*17+4)*17+5 = 362 = 0x16a; the Unknown 1: (((1*17+7)*17+1)*17+4)*17+5 = 118274, modulo 65536 52738 = 0xce02
	mustHear(t, e, "\x7e\x04\x05\x6a\x01\x7e", api.Closed, "\x7e\x07\x01\x04\x05\x02\xce\x7e")
}

// TestBytesInPieces: a frame that comes in two pieces, cut anywhere, in three, and byte by byte.
func TestBytesInPieces(t *testing.T) {
	in := frame(1, 125, itemsBy(5, 6, 5, 126*256+125))
	want := frame(2, 125, itemsBy(5, 6, 5, 126*256+125))
	for i := range len(in) {
		for j := i; j < len(in); j++ {
			e := asking(t, goodConfig())
			mustHear(t, e, in[:i], api.ReqSent)
			mustHear(t, e, in[i:j], api.ReqSent)
			mustHear(t, e, "", api.ReqSent)
			mustHear(t, e, in[j:], api.AckSent, want)
		}
	}
	e := asking(t, goodConfig())
	for i := range len(in) - 1 {
		mustHear(t, e, in[i:i+1], api.ReqSent)
	}
	mustHear(t, e, "~", api.AckSent, want)
	mustHear(t, e, "~~~", api.AckSent)
}

// TestBytesTogether: what is sent, in the order of what has come, each in its own frame.
func TestBytesTogether(t *testing.T) {
	c := goodConfig()
	request, ack := itemsBy(5, 5, 5, 8), requestBy(c)
	e := asking(t, c)
	in := frame(1, 9, request) + frame(2, 1, ack) + frame(9, 3, "a") + "~~" + frame(9, 4, "b") + frame(11, 5, "c")
	mustHear(t, e, in, api.Opened, frame(2, 9, request), frame(10, 3, "a"), frame(10, 4, "b"), frame(7, 1, "\x0b\x05c"))
	mustTell(t, e, api.Begins, api.IsUp)

	// one flag stands behind a packet and ahead of the next; and none ahead of the first
	e = asking(t, c)
	in = strings.ReplaceAll(in, "~~", "~")
	mustHear(t, e, in[1:], api.Opened, frame(2, 9, request), frame(10, 3, "a"), frame(10, 4, "b"), frame(7, 1, "\x0b\x05c"))
}

// noFrames: what is no packet when a flag ends it.
func noFrames() []string {
	good := innerBy(5, 1, "")
	x := func(n int) string { return strings.Repeat("x", n) }
	return []string{
		"", "~", "~~~~", "x~", "}~", "}}~", "~}~", "\x05\x01\x77~",
		good[:3] + "~" + good[3:] + "~", // a flag within
		good + "}~",                     // an escape that escapes nothing, not even the flag
		good[:3] + "}~\x01~",            // the same, within
		"\x05\x01\x77\x02~",             // the sum
		"\x05\x01\x01\x77~",             // its bytes the other way round
		innerBy(0, 1, "") + "~",         // the code
		innerBy(1, 1, x(41)) + "~",      // too many bytes
		x(88) + "~", x(89) + "~", x(5000) + "~",
		strings.Repeat("}x", 44) + "~",  // 88 that are 44
		strings.Repeat("}x", 44) + "}~", // 89
		strings.Repeat("}x", 45) + "~",  // 90
		strings.Repeat("x~", 5000) + "~",
		strings.Repeat("}", 1<<20) + "~",
		x(84) + good + "~", // a packet behind 84 other bytes, with which it has 88
		x(85) + good + "~", // 89
		x(88) + good + "~", // behind as many as there may be
		x(89) + good + "~", // behind one more
		x(176) + good + "~", x(178) + good + "~", x(256) + good + "~", x(65536) + good + "~",
	}
}

// TestWhatIsNoFrame: it is as if it had not been, whatever it is; and what comes behind it is heard.
func TestWhatIsNoFrame(t *testing.T) {
	in, want := frame(5, 1, ""), frame(6, 1, "")
	for _, no := range noFrames() {
		e := asking(t, goodConfig())
		mustHear(t, e, no, api.ReqSent)
		mustHear(t, e, in, api.ReqSent, want)
		mustHear(t, e, "~"+no, api.ReqSent)
		mustHear(t, e, in[1:], api.ReqSent, want)
		mustHear(t, e, no+in+no+in+no, api.ReqSent, want, want)
		mustTell(t, e, api.Begins)
		mustDo(t, e, api.Close, api.Closing, endFrame(2))
	}
}

// TestLongestFrame: 88 bytes between the flags, of which each one is escaped, are a packet.
func TestLongestFrame(t *testing.T) {
	content := string([]byte{11, 125}) + strings.Repeat("~}", 20)
	s := sumBy(content)
	escaped := ""
	for _, c := range []byte(content + string([]byte{byte(s % 256), byte(s / 256)})) {
		escaped += string([]byte{125, c ^ 32})
	}
	if len(escaped) != 88 {
		t.Fatalf("the frame of this test has %d bytes", len(escaped))
	}
	e := asking(t, goodConfig())
	want := frame(7, 1, content[:40])
	if strings.Contains(escaped, "~") {
		t.Fatalf("the frame of this test has a flag: %x", escaped)
	}
	mustHear(t, e, "~"+escaped+"~", api.ReqSent, want)
	mustHear(t, e, "~x"+escaped+"~", api.ReqSent)
	mustHear(t, e, "~"+escaped+"}~", api.ReqSent)
}

// TestGatheringGoesOn: neither an event nor a call that asks ends what was gathered.
func TestGatheringGoesOn(t *testing.T) {
	in := frame(5, 1, "")
	e := mustMake(t, goodConfig())
	mustHear(t, e, in[:2], api.Initial)
	mustDo(t, e, api.Up, api.Closed, "")
	e.State()
	mustHear(t, e, in[2:4], api.Closed)
	mustDo(t, e, api.Down, api.Initial, "")
	mustDo(t, e, api.Up, api.Closed, "")
	e.Told()
	e.Agreed()
	mustHear(t, e, in[4:], api.Closed, frame(6, 1, ""))
}

// TestUnheard: in Initial and Starting nothing is answered, and it is not answered later either.
func TestUnheard(t *testing.T) {
	for _, p := range cellPackets() {
		e := mustMake(t, goodConfig())
		mustHear(t, e, frameBy(p), api.Initial)
		mustDo(t, e, api.Open, api.Starting, "")
		mustHear(t, e, frameBy(p), api.Starting)
		mustTell(t, e, api.Begins)
		mustDo(t, e, api.Up, api.ReqSent, requestFrame(1, requestBy(goodConfig())))
		mustHear(t, e, frame(11, 2, ""), api.ReqSent, frame(7, 1, "\x0b\x02"))
	}
}
