package line_test

import (
	"errors"
	"strings"
	"testing"

	"concord/api"
	"concord/line"
)

// reasons: all that may be wrong, to see that a fault is one of them and no other.
func reasons() []error {
	return []error{line.ErrFlag, line.ErrLoose, line.ErrShort, line.ErrLong, line.ErrSum, line.ErrCode}
}

func TestReadWrapsWhatIsWrong(t *testing.T) {
	for _, c := range []struct {
		in    string
		why   error
		frame bool
		at    int
	}{
		{"\x05\x01~\x01", line.ErrFlag, true, 2},
		{"}~\x01\x77\x01", line.ErrFlag, true, 1},
		{"\x05\x01\x77\x01}", line.ErrLoose, true, 5},
		{"\x05\x01\x77", line.ErrShort, true, 3},
		{"", line.ErrShort, true, 0},
		{strings.Repeat("x", 45), line.ErrLong, true, 44},
		{strings.Repeat("}x", 45), line.ErrLong, true, 89},
		{"\x05\x01\x77\x02", line.ErrSum, false, 4},
		{"\x00\x00\x21\x01", line.ErrCode, false, 4},
	} {
		p, err := line.Read([]byte(c.in))
		if p != (api.Packet{}) {
			t.Errorf("Read(%x): beside an error there is %#v", c.in, p)
		}
		for _, why := range reasons() {
			if errors.Is(err, why) != (why == c.why) {
				t.Errorf("Read(%x): %v, want %v", c.in, err, c.why)
			}
		}
		var frame *line.FrameError
		var content *line.ContentError
		isFrame, isContent := errors.As(err, &frame), errors.As(err, &content)
		if isFrame != c.frame || isContent == c.frame {
			t.Errorf("Read(%x): %v is wrapped by another", c.in, err)
		} else if isFrame && frame.At != c.at || isContent && content.Size != c.at {
			t.Errorf("Read(%x): %v, want it at %d", c.in, err, c.at)
		}
	}
}

func TestFaultsTellWhoAndWhy(t *testing.T) {
	for _, c := range []struct{ in, want string }{
		{"\x05~", "frame, behind 1 bytes: a flag among the bytes"},
		{"\x05\x01\x77\x02", "content of 4 bytes: the sum is another one"},
	} {
		if _, err := line.Read([]byte(c.in)); err == nil || err.Error() != c.want {
			t.Errorf("Read(%x): %v, want %s", c.in, err, c.want)
		}
	}
}

func TestWriteAndRead(t *testing.T) {
	p := api.Packet{Code: 126, ID: 125, Data: "~}hello"}
	b := line.Write(p)
	q, err := line.Read(b[1 : len(b)-1])
	if q != p || err != nil {
		t.Errorf("Read of Write(%#v) = %#v, %v", p, q, err)
	}
}

// TestMaxEscaped: the longest content, each of its bytes escaped, is read; with a byte more it is none.
func TestMaxEscaped(t *testing.T) {
	longest := strings.Repeat("}x", line.MaxEscaped/2)
	if _, err := line.Read([]byte(longest)); !errors.Is(err, line.ErrSum) || line.MaxEscaped != 88 {
		t.Errorf("Read of %d bytes: %v, want %v", len(longest), err, line.ErrSum)
	}
	for _, more := range []string{longest + "x", "x" + longest, longest + "}"} {
		var frame *line.FrameError
		if _, err := line.Read([]byte(more)); !errors.As(err, &frame) {
			t.Errorf("Read of %d bytes: %v, want that they are no frame", len(more), err)
		}
	}
}

func TestIsPacket(t *testing.T) {
	for _, c := range []struct {
		p    api.Packet
		want bool
	}{
		{api.Packet{Code: 1}, true},
		{api.Packet{Code: 255, ID: 255, Data: strings.Repeat("x", 40)}, true},
		{api.Packet{Code: 0}, false},
		{api.Packet{Code: 256}, false},
		{api.Packet{Code: 1, ID: -1}, false},
		{api.Packet{Code: 1, ID: 256}, false},
		{api.Packet{Code: 1, Data: strings.Repeat("x", 41)}, false},
	} {
		if line.IsPacket(c.p) != c.want {
			t.Errorf("IsPacket(%#v) is not %v", c.p, c.want)
		}
	}
}
