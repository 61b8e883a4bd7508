package concord_test

import (
	"strings"
	"testing"

	"concord/api"
	"concord/concord"
)

// unframeBy says again what the document's words say of Unframe, one condition behind the other.
func unframeBy(s string) (api.Packet, api.Errno) {
	if strings.Contains(s, "~") {
		return api.Packet{}, api.ErrFrame
	}
	plain := ""
	for len(s) > 0 {
		if s == "}" {
			return api.Packet{}, api.ErrFrame
		}
		if s[0] == '}' {
			plain += string([]byte{s[1] ^ 32})
			s = s[2:]
		} else {
			plain += s[:1]
			s = s[1:]
		}
	}
	n := len(plain)
	if n < 4 || n > 44 {
		return api.Packet{}, api.ErrFrame
	}
	if sumBy(plain[:n-2]) != int(plain[n-2])+256*int(plain[n-1]) {
		return api.Packet{}, api.ErrSum
	}
	if plain[0] == 0 {
		return api.Packet{}, api.ErrPacket
	}
	return api.Packet{Code: int(plain[0]), ID: int(plain[1]), Data: plain[2 : n-2]}, api.OK
}

func TestUnframeByHand(t *testing.T) {
	x := func(n int) string { return strings.Repeat("x", n) }
	wrong := func(code, id int, data string) string {
		b := []byte(innerBy(code, id, data))
		b[1] ^= 1
		return string(b)
	}
	for _, c := range []struct {
		name, in string
		want     api.Errno
	}{
		{"nothing", "", api.ErrFrame},
		{"3 bytes", "\x05\x01\x77", api.ErrFrame},
		{"3 bytes with their sum, 18", "\x01\x12\x00", api.ErrFrame},
		{"4 bytes", "\x05\x01\x77\x01", api.OK},
		{"4 bytes, each escaped without need", "}\x25}\x21}\x57}\x21", api.OK},
		{"44 bytes", innerBy(1, 1, x(40)), api.OK},
		{"44 bytes, 88 on the line", strings.Repeat("}x", 44), api.ErrSum},
		{"45 bytes with their sum", innerBy(1, 1, x(41)), api.ErrFrame},
		{"45 bytes, 90 on the line", strings.Repeat("}x", 45), api.ErrFrame},
		{"very many bytes", x(1 << 20), api.ErrFrame},
		{"very many escapes", strings.Repeat("}", 1<<20), api.ErrFrame},

		{"a flag alone", "~", api.ErrFrame},
		{"a flag at the front", "~\x05\x01\x77\x01", api.ErrFrame},
		{"a flag at the end", "\x05\x01\x77\x01~", api.ErrFrame},
		{"a flag within", "\x05\x01~\x77\x01", api.ErrFrame},
		{"a flag that is escaped", "}~\x01\x77\x01", api.ErrFrame},
		{"a flag that would make it a packet, unescaped", "\x01\x4c\x7e\x01", api.ErrFrame},
		{"a flag behind too many bytes", x(50) + "~", api.ErrFrame},

		{"an escape alone", "}", api.ErrFrame},
		{"an escape at the end", "\x05\x01\x77\x01}", api.ErrFrame},
		{"an escape at the end of 44 bytes", innerBy(1, 1, x(40)) + "}", api.ErrFrame},
		{"an escape that escapes an escape at the end", "\x05\x01\x77}}", api.ErrSum},
		{"escapes that escape escapes, 4 bytes", "}}}}}}}}", api.ErrSum},
		{"escapes that escape escapes, 3 bytes", "}}}}}}", api.ErrFrame},
		{"escapes that escape escapes, and one more", "}}}}}}}}}", api.ErrFrame},

		{"the lower byte of the sum", "\x05\x01\x76\x01", api.ErrSum},
		{"the upper byte of the sum", "\x05\x01\x77\x00", api.ErrSum},
		{"the sum's bytes the other way round", "\x05\x01\x01\x77", api.ErrSum},
		{"another code", "\x04\x01\x77\x01", api.ErrSum},
		{"another ID", "\x05\x02\x77\x01", api.ErrSum},
		{"4 bytes of 0", "\x00\x00\x00\x00", api.ErrSum},

		{"a first byte of 0", innerBy(0, 0, ""), api.ErrPacket},
		{"a first byte of 0, and data", innerBy(0, 255, x(40)), api.ErrPacket},
		{"a first byte of 0 that is escaped", "}\x20" + innerBy(0, 1, "x")[1:], api.ErrPacket},

		{"a first byte of 0 and a wrong sum", wrong(0, 1, "x"), api.ErrSum},
		{"a first byte of 0, a wrong sum and a flag", wrong(0, 1, "x") + "~", api.ErrFrame},
		{"a first byte of 0 and a flag", innerBy(0, 1, "x") + "~", api.ErrFrame},
		{"a first byte of 0 and an escape at the end", innerBy(0, 1, "x") + "}", api.ErrFrame},
		{"a first byte of 0 and 45 bytes", innerBy(0, 1, x(41)), api.ErrFrame},
		{"a wrong sum and 45 bytes", x(45), api.ErrFrame},
		{"a wrong sum and 44 bytes", x(44), api.ErrSum},
	} {
		p, e := concord.Unframe([]byte(c.in))
		if e != c.want || e != api.OK && p != (api.Packet{}) {
			t.Errorf("P4, P1: Unframe of %s = %#v, %d, want %d", c.name, p, e, c.want)
		}
	}
	if p, e := concord.Unframe(nil); p != (api.Packet{}) || e != api.ErrFrame {
		t.Errorf("P4: Unframe(nil) = %#v, %d", p, e)
	}
}

func holdUnframe(t *testing.T, in string) {
	t.Helper()
	p, e := concord.Unframe([]byte(in))
	q, want := unframeBy(in)
	if p != q || e != want {
		t.Fatalf("P4: Unframe(%x) = %#v, %d, want %#v, %d", in, p, e, q, want)
	}
}

// TestUnframeAllShort: all that a few telling bytes make, as it is and with a right sum behind it.
func TestUnframeAllShort(t *testing.T) {
	telling := "\x00\x01\x20\x5d\x5e}~"
	row := []string{""}
	for range 6 {
		var next []string
		for _, s := range row {
			holdUnframe(t, s)
			sum := sumBy(s)
			holdUnframe(t, escapeBy(s+string([]byte{byte(sum), byte(sum >> 8)})))
			for i := range len(telling) {
				next = append(next, s+telling[i:i+1])
			}
		}
		row = next
	}
}

// TestUnframeSpoilt: each packet with each of its bytes made another one, left out, or doubled.
func TestUnframeSpoilt(t *testing.T) {
	for _, p := range append(goodPackets(), api.Packet{Code: 0, ID: 9, Data: "abc"}) {
		in := innerBy(p.Code, p.ID, p.Data)
		for i := range len(in) {
			holdUnframe(t, in[:i])
			holdUnframe(t, in[:i]+in[i+1:])
			holdUnframe(t, in[:i]+in[i:i+1]+in[i:])
			for c := range 256 {
				holdUnframe(t, in[:i]+string([]byte{byte(c)})+in[i+1:])
			}
		}
	}
}

func FuzzUnframe(f *testing.F) {
	for _, p := range goodPackets() {
		f.Add(innerBy(p.Code, p.ID, p.Data))
	}
	f.Fuzz(func(t *testing.T, in string) { holdUnframe(t, in) })
}
