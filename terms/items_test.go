package terms_test

import (
	"testing"

	"concord/terms"
)

func TestWrite(t *testing.T) {
	for _, c := range []struct {
		items []terms.Item
		want  string
	}{
		{nil, ""},
		{[]terms.Item{{2, 0}}, "\x02\x00\x00"},
		{[]terms.Item{{1, 255}, {3, 256}, {terms.Magic, 65535}}, "\x01\xff\x00\x03\x00\x01\x04\xff\xff"},
		{[]terms.Item{{4, 0x1234}, {1, 5}}, "\x04\x34\x12\x01\x05\x00"},
	} {
		if got := terms.Write(c.items); got != c.want {
			t.Errorf("Write(%v) = %x, want %x", c.items, got, c.want)
		}
	}
}
