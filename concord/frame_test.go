package concord_test

import (
	"math"
	"strings"
	"testing"

	"concord/api"
	"concord/concord"
)

// sumBy, escapeBy, innerBy and frameBy say again, in another way than the program, what the document's words say.
func sumBy(b string) int {
	s := 1
	for i := range len(b) {
		s = (s*17 + int(b[i])) % 65536
	}
	return s
}

func escapeBy(b string) string {
	return strings.NewReplacer("}", "}]", "~", "}^").Replace(b)
}

func innerBy(code, id int, data string) string {
	b := string([]byte{byte(code), byte(id)}) + data
	s := sumBy(b)
	return escapeBy(b + string([]byte{byte(s % 256), byte(s / 256)}))
}

func frameBy(p api.Packet) string {
	return "~" + innerBy(p.Code, p.ID, p.Data) + "~"
}

// goodPackets: ordinary ones and those at the document's edges.
func goodPackets() []api.Packet {
	return []api.Packet{
		{Code: 5, ID: 1},
		{Code: 9, ID: 7, Data: "hello"},
		{Code: 1, ID: 0},
		{Code: 1, ID: 255},
		{Code: 255, ID: 0},
		{Code: 255, ID: 255, Data: strings.Repeat("\xff", api.MaxData)},
		{Code: 1, ID: 0, Data: strings.Repeat("\x00", api.MaxData)},
		{Code: 4, ID: 200, Data: strings.Repeat("x", api.MaxData-1)},
		{Code: 125, ID: 126, Data: "}~"},
		{Code: 126, ID: 125, Data: "~}^]"},
		{Code: 126, ID: 126, Data: strings.Repeat("~", api.MaxData)},
		{Code: 125, ID: 125, Data: strings.Repeat("}", api.MaxData)},
	}
}

func TestFrameByHand(t *testing.T) {
	for _, c := range []struct {
		p    api.Packet
		want string
	}{
		{api.Packet{Code: 5, ID: 1}, "\x7e\x05\x01\x77\x01\x7e"},
		// (1*17+1)*17+0 = 306 = 0x132
		{api.Packet{Code: 1}, "\x7e\x01\x00\x32\x01\x7e"},
		// (1*17+255)*17+255 = 4879 = 0x130f
		{api.Packet{Code: 255, ID: 255}, "\x7e\xff\xff\x0f\x13\x7e"},
		// ((1*17+1)*17+0)*17+255 = 5457 = 0x1551
		{api.Packet{Code: 1, Data: "\xff"}, "\x7e\x01\x00\xff\x51\x15\x7e"},
		// (1*17+125)*17+126 = 2540 = 0x9ec
		{api.Packet{Code: 125, ID: 126}, "\x7e\x7d\x5d\x7d\x5e\xec\x09\x7e"},
		// (1*17+1)*17+76 = 382 = 0x17e: the lower byte of the sum is a flag
		{api.Packet{Code: 1, ID: 76}, "\x7e\x01\x4c\x7d\x5e\x01\x7e"},
		// (1*17+1)*17+75 = 381 = 0x17d: and an escape
		{api.Packet{Code: 1, ID: 75}, "\x7e\x01\x4b\x7d\x5d\x01\x7e"},
	} {
		b, e := concord.Frame(c.p)
		if string(b) != c.want || e != api.OK {
			t.Errorf("P3: Frame(%#v) = %x, %d, want %x", c.p, b, e, c.want)
		}
		p, e := concord.Unframe([]byte(c.want[1 : len(c.want)-1]))
		if p != c.p || e != api.OK {
			t.Errorf("P4: Unframe of %x = %#v, %d, want %#v", c.want, p, e, c.p)
		}
	}
}

// bothWays holds Frame of p against the document's words, and Unframe against Frame.
func bothWays(t *testing.T, p api.Packet) {
	t.Helper()
	want := frameBy(p)
	b, e := concord.Frame(p)
	if string(b) != want || e != api.OK {
		t.Fatalf("P3: Frame(%#v) = %x, %d, want %x", p, b, e, want)
	}
	q, e := concord.Unframe(b[1 : len(b)-1])
	if q != p || e != api.OK {
		t.Fatalf("P4: Unframe of %x = %#v, %d, want %#v", b, q, e, p)
	}
}

func TestFrameBothWays(t *testing.T) {
	for _, p := range goodPackets() {
		bothWays(t, p)
	}
	for code := 1; code <= 255; code++ {
		for id := range 256 {
			bothWays(t, api.Packet{Code: code, ID: id})
		}
	}
	for n := range api.MaxData + 1 {
		bothWays(t, api.Packet{Code: 9, ID: n, Data: strings.Repeat("}~a", 14)[:n]})
	}
	for c := range 256 {
		bothWays(t, api.Packet{Code: 9, ID: 3, Data: string([]byte{byte(c), 1, byte(c)})})
	}
}

// TestFrameSumBytes: 125 and 126 as either byte of the sum. (Of four bytes the sum has always gone round at 65536: 17*17*17*17 is above that.)
func TestFrameSumBytes(t *testing.T) {
	type place struct{ at, byte int }
	found := map[place]bool{}
	for id := range 256 {
		for c := range 256 {
			p := api.Packet{Code: 9, ID: id, Data: string([]byte{byte(c), 0})}
			s := sumBy(string([]byte{9, byte(id)}) + p.Data)
			for at, b := range []int{s % 256, s / 256} {
				if b == api.Escape || b == api.Flag {
					found[place{at, b}] = true
					bothWays(t, p)
				}
			}
		}
	}
	if len(found) != 4 {
		t.Errorf("the packets of this test have not all that it is for: %v", found)
	}
}

func TestFrameWrong(t *testing.T) {
	over := strings.Repeat("x", api.MaxData+1)
	for _, p := range []api.Packet{
		{},
		{ID: 1, Data: "x"},
		{Code: -1}, {Code: 256}, {Code: 257}, {Code: math.MinInt}, {Code: math.MaxInt},
		{Code: 1, ID: -1}, {Code: 1, ID: 256}, {Code: 1, ID: math.MinInt}, {Code: 1, ID: math.MaxInt},
		{Code: 1, Data: over}, {Code: 255, ID: 255, Data: strings.Repeat("~", 1<<16)},
		{Code: 0, ID: 256, Data: over},
	} {
		if b, e := concord.Frame(p); len(b) != 0 || e != api.ErrPacket {
			t.Errorf("P3, P1: Frame(%d, %d, %d bytes) = %x, %d, want ErrPacket alone", p.Code, p.ID, len(p.Data), b, e)
		}
	}
}
