package terms_test

import (
	"errors"
	"slices"
	"testing"

	"concord/api"
	"concord/terms"
)

func TestWrite(t *testing.T) {
	for _, c := range []struct {
		items []terms.Item
		want  string
	}{
		{nil, ""},
		{[]terms.Item{{2, 0}}, "\x02\x00\x00"},
		{[]terms.Item{{1, 255}, {3, 256}, {terms.Magic, 65535}}, "\x01\xff\x00\x03\x00\x01\x04\xff\xff"},
		{[]terms.Item{{4, 0x1234}, {1, 5}}, "\x04\x34\x12\x01\x05\x00"},
	} {
		if got := terms.Write(c.items); got != c.want {
			t.Errorf("Write(%v) = %x, want %x", c.items, got, c.want)
		}
	}
}

// eachChoice gives every choice of the four items that has one.
func eachChoice(hold func(items []terms.Item)) {
	for choice := 1; choice < 16; choice++ {
		var items []terms.Item
		for i, n := range []int{0, 255, 256, 65535} {
			if choice&(1<<i) != 0 {
				items = append(items, terms.Item{Which: i + 1, Number: n})
			}
		}
		hold(items)
	}
}

func TestReadWhatWasWritten(t *testing.T) {
	eachChoice(func(items []terms.Item) {
		data := terms.Write(items)
		if got, err := terms.Read(data); err != nil || !slices.Equal(got, items) {
			t.Errorf("Read(%x) = %v, %v, want %v", data, got, err, items)
		}
		got, err := terms.ReadAll(data)
		if len(items) == 4 && (err != nil || !slices.Equal(got, items)) {
			t.Errorf("ReadAll(%x) = %v, %v, want %v", data, got, err, items)
		}
		if len(items) < 4 && (got != nil || !errors.Is(err, terms.ErrMissing)) {
			t.Errorf("ReadAll(%x) = %v, %v, want an error", data, got, err)
		}
	})
}

func TestReadWrapsWhatIsWrong(t *testing.T) {
	reasons := []error{terms.ErrNone, terms.ErrPart, terms.ErrOrder, terms.ErrMissing}
	for _, c := range []struct {
		data string
		why  error
		at   int
	}{
		{"", terms.ErrNone, 0},
		{"\x01", terms.ErrPart, 0},
		{"\x01\x05", terms.ErrPart, 0},
		{"\x01\x05\x00\x02", terms.ErrPart, 3},
		{"\x01\x05\x00\x02\x05\x00\x03\x05\x00\x04\x07\x00\x05", terms.ErrPart, 12},
		{"\x00\x05\x00", terms.ErrOrder, 0},
		{"\x05\x05\x00", terms.ErrOrder, 0},
		{"\xff\x05\x00", terms.ErrOrder, 0},
		{"\x02\x05\x00\x01\x05\x00", terms.ErrOrder, 3},
		{"\x01\x05\x00\x01\x05\x00", terms.ErrOrder, 3},
		{"\x01\x05\x00\x04\x05\x00\x03\x05\x00", terms.ErrOrder, 6},
		{"\x01\x05\x00\x02\x05\x00\x03\x05\x00\x04\x07\x00\x04\x07\x00", terms.ErrOrder, 12},
		{"\x01\x05\x00\x02\x05\x00\x03\x05\x00\x04\x07\x00\x05\x07\x00", terms.ErrOrder, 12},
	} {
		for name, read := range map[string]func(string) ([]terms.Item, error){"Read": terms.Read, "ReadAll": terms.ReadAll} {
			items, err := read(c.data)
			var wrong *terms.ItemsError
			if items != nil || !errors.As(err, &wrong) || wrong.At != c.at {
				t.Errorf("%s(%x) = %v, %v, want an error behind %d bytes", name, c.data, items, err, c.at)
			}
			for _, why := range reasons {
				if errors.Is(err, why) != (why == c.why) {
					t.Errorf("%s(%x): %v, want %v", name, c.data, err, c.why)
				}
			}
		}
	}
	if _, err := terms.ReadAll("\x01\x05\x00"); err == nil || err.Error() != "items, behind 3 bytes: not all the items" {
		t.Errorf("ReadAll of one item: %v", err)
	}
}

func TestOptions(t *testing.T) {
	for _, c := range []struct {
		items []terms.Item
		want  api.Terms
	}{
		{nil, api.Terms{}},
		{[]terms.Item{{1, 5}, {2, 0}, {3, 65535}, {4, 7}}, api.Terms{5, 0, 65535}},
		{[]terms.Item{{2, 6}, {4, 7}}, api.Terms{0, 6, 0}},
	} {
		if got := terms.Options(c.items); got != c.want {
			t.Errorf("Options(%v) = %v, want %v", c.items, got, c.want)
		}
	}
}
