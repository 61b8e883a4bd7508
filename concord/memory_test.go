package concord_test

import (
	"bytes"
	"math/rand"
	"slices"
	"strings"
	"testing"

	"concord/api"
	"concord/concord"
)

// spoil writes into a list and into its spare room.
func spoil[T any](list []T, with T) {
	list = list[:cap(list)]
	for i := range list {
		list[i] = with
	}
}

// withRoom is s, with spare room behind it that is filled.
func withRoom[T any](s []T, fill T) []T {
	b := slices.Concat(s, slices.Repeat([]T{fill}, 60))
	return b[:len(s)]
}

func TestFrameGivesNewMemory(t *testing.T) {
	for _, p := range goodPackets() {
		first, _ := concord.Frame(p)
		second, _ := concord.Frame(p)
		spoil(first, '!')
		if string(second) != frameBy(p) {
			t.Errorf("P2: a frame changed with the one ahead of it: %x", second)
		}
		spoil(second, '?')
		if third, _ := concord.Frame(p); string(third) != frameBy(p) {
			t.Errorf("P2: a frame hangs on what was written into those ahead of it: %x", third)
		}
		if !slices.Equal(first, bytes.Repeat([]byte("!"), len(first))) {
			t.Errorf("P2: a frame was written into by later calls: %x", first)
		}
	}
}

func TestUnframeLeavesInputAlone(t *testing.T) {
	ins := []string{"", "}", "~", "\x05\x01\x77\x01", "\x05\x01\x77\x02", "\x05\x01\x77\x01}", innerBy(0, 1, "x"), strings.Repeat("}x", 45)}
	for _, p := range goodPackets() {
		ins = append(ins, innerBy(p.Code, p.ID, p.Data))
	}
	for _, in := range ins {
		for _, fill := range []byte{'!', api.Flag, api.Escape} {
			b := withRoom([]byte(in), fill)
			kept := slices.Clone(b[:cap(b)])
			p, e := concord.Unframe(b)
			if !slices.Equal(b[:cap(b)], kept) {
				t.Errorf("P2: Unframe(%x) wrote into what it was given: %x", in, b[:cap(b)])
			}
			if q, f := unframeBy(in); p != q || e != f {
				t.Errorf("P2: Unframe(%x) hangs on the spare room: %#v, %d", in, p, e)
			}
		}
	}
}

func TestUnframeKeepsNothing(t *testing.T) {
	in := []byte(innerBy(9, 7, "hello"))
	p, _ := concord.Unframe(in)
	spoil(in, 'z')
	q, _ := concord.Unframe([]byte(innerBy(9, 8, "other")))
	if p != (api.Packet{Code: 9, ID: 7, Data: "hello"}) || q != (api.Packet{Code: 9, ID: 8, Data: "other"}) {
		t.Errorf("P2: a packet shares memory with what it was read from, or with another: %#v, %#v", p, q)
	}
}

// TestUnframeForgets: no call's answer hangs on the calls ahead of it.
func TestUnframeForgets(t *testing.T) {
	for _, ahead := range []string{"", "}", "\x05\x01\x77", "~", "\x05\x01\x77\x02", innerBy(0, 1, "x")} {
		concord.Unframe([]byte(ahead))
		holdUnframe(t, "\x05\x01\x77\x01")
	}
}

func TestNewLeavesInputAlone(t *testing.T) {
	for _, turn := range []func(c *api.Config){
		func(c *api.Config) {},
		func(c *api.Config) { c.Magic = 0 },
		func(c *api.Config) { c.Want[1] = []int{9, 3, 9} },
		func(c *api.Config) { c.Accept[2] = []int{8, 7, 6, 5, 4, 3, 2, 1} },
		func(c *api.Config) { c.Accept[2] = []int{9, 8, 7, 6, 5, 4, 3, 2, 1} },
	} {
		c := goodConfig()
		turn(&c)
		var lists, kept [6][]int
		for i := range 3 {
			c.Want[i], c.Accept[i] = withRoom(c.Want[i], -4), withRoom(c.Accept[i], -5)
			lists[i], lists[i+3] = c.Want[i], c.Accept[i]
		}
		for i, list := range lists {
			kept[i] = slices.Clone(list[:cap(list)])
		}
		concord.New(c)
		for i, list := range lists {
			if !slices.Equal(list[:cap(list)], kept[i]) {
				t.Errorf("P2: New wrote into list %d: %v, was %v", i, list[:cap(list)], kept[i])
			}
		}
	}
}

func TestNewKeepsNothing(t *testing.T) {
	c := goodConfig()
	data := requestBy(c)
	e := mustMake(t, c)
	for i := range 3 {
		spoil(c.Want[i], 99)
		spoil(c.Accept[i], 99)
	}
	if f := mustMake(t, goodConfig()); e == f {
		t.Error("P2: two ends are one")
	}
	if e.State() != api.Initial {
		t.Errorf("P2: the state is %d behind writing into what New was given", e.State())
	}
	mustDo(t, e, api.Up, api.Closed, "")
	mustDo(t, e, api.Open, api.ReqSent, requestFrame(1, data))
	// neither is 99 accepted, nor is it wished
	mustHear(t, e, ask(9, 99, 99, 99, 8), api.ReqSent, nak(9, 5, 5, 5))
	mustHear(t, e, ask(9, 6, 6, 6, 8), api.AckSent, ack(9, 6, 6, 6, 8))
	mustHear(t, e, nak(1, 99, 99, 99), api.AckSent, requestFrame(2, data))
}

// TestEndsAreApart: two ends of one configuration, told in turn, and what came out of each written into.
func TestEndsAreApart(t *testing.T) {
	c := goodConfig()
	e, f := mustMake(t, c), mustMake(t, c)
	m, n := modelOf(c), modelOf(c)
	for i := range 60 {
		step(t, e, m, []int{api.Up, api.Open, api.Tick, api.Tick, api.Close}[i%5], i)
		spoil(e.Told(), 9)
		step(t, f, n, []int{api.Open, api.Up, api.Down}[i%3], i)
		spoil(f.Told(), 9)
	}
}

// TestEventGivesNewMemory: the owner of what was sent writes into it and behind it.
func TestEventGivesNewMemory(t *testing.T) {
	c := goodConfig()
	e, m := starting(t, c), modelOf(c)
	m.event(api.Open)
	var all [][]byte
	for i := range 90 {
		kind := []int{api.Up, api.Tick, api.Tick, api.Tick, api.Close, api.Down, api.Open}[i%7]
		if got, want := e.Event(kind), m.event(kind); string(got) != want {
			t.Fatalf("P2: what is sent hangs on what was written into what was sent: %x, want %x", got, want)
		} else if len(got) > 0 {
			spoil(got, byte(i))
			all = append(all, slices.Clone(got), got)
		}
	}
	if len(all) < 40 {
		t.Fatalf("this test sends only %d times", len(all)/2)
	}
	for i := 0; i < len(all); i += 2 {
		if !slices.Equal(all[i], all[i+1]) {
			t.Errorf("P2: what was sent was written into by later calls: %x, was %x", all[i+1], all[i])
		}
	}
}

// TestBytesLeavesInputAlone: what is handed in, and its spare room, which holds what would be heard.
func TestBytesLeavesInputAlone(t *testing.T) {
	spare := []byte(frame(5, 1, "") + frame(5, 1, ""))
	for _, in := range append(noFrames(), frame(1, 9, itemsBy(5, 5, 5, 8)), frame(1, 9, itemsBy(4, 5, 5, 7)), frame(11, 3, strings.Repeat("~}", 20)), frame(2, 1, requestBy(goodConfig()))) {
		c := goodConfig()
		e, m := asking(t, c), modelOf(c)
		m.event(api.Open)
		m.event(api.Up)
		whole := slices.Concat([]byte(in), spare)
		kept := slices.Clone(whole)
		got, want := string(e.Bytes(whole[:len(in)])), m.bytes(in)
		if !slices.Equal(whole, kept) {
			t.Errorf("P2: Bytes(%x) wrote into what it was given", in)
		}
		if got != want || !isLike(e, m) {
			t.Errorf("P2: Bytes(%x) hangs on the spare room: %x, want %x", in, got, want)
		}
	}
}

// TestBytesKeepsNothing: a piece of a frame is written into when it was taken, and when the rest was.
func TestBytesKeepsNothing(t *testing.T) {
	in := frame(1, 9, itemsBy(6, 5, 6, 8))
	for cut := range len(in) {
		e := asking(t, goodConfig())
		first, second := withRoom([]byte(in[:cut]), '~'), withRoom([]byte(in[cut:]), '~')
		e.Bytes(first)
		spoil(first, 'x')
		if got := string(e.Bytes(second)); got != frame(2, 9, itemsBy(6, 5, 6, 8)) {
			t.Fatalf("P2: what was gathered hangs on what was written into it: %x", got)
		}
		spoil(second, 'x')
		if _, agreed := e.Agreed(); agreed != (api.Terms{6, 5, 6}) {
			t.Fatalf("P2: the terms hang on what was written into what was heard: %v", agreed)
		}
		mustHear(t, e, frame(2, 1, requestBy(goodConfig())), api.Opened)
	}
}

// TestBytesGivesNewMemory: the owner of what was sent writes into it and behind it.
func TestBytesGivesNewMemory(t *testing.T) {
	source := rand.New(rand.NewSource(2))
	c := someConfig(source)
	e, m := mustMake(t, c), modelOf(c)
	w := walker{source, m, even}
	for _, kind := range []int{api.Open, api.Up} {
		spoil(e.Event(kind), 'x')
		m.event(kind)
	}
	var all [][]byte
	for i := range 2000 {
		in := w.bytes()
		if got, want := e.Bytes([]byte(in)), m.bytes(in); string(got) != want || !isLike(e, m) {
			t.Fatalf("P2: what is sent hangs on what was written into what was sent: %x, want %x", got, want)
		} else if len(got) > 0 {
			spoil(got, byte(i))
			all = append(all, slices.Clone(got), got)
		}
	}
	if len(all) < 400 {
		t.Fatalf("this test sends only %d times", len(all)/2)
	}
	for i := 0; i < len(all); i += 2 {
		if !slices.Equal(all[i], all[i+1]) {
			t.Errorf("P2: what was sent was written into by later calls: %x, was %x", all[i+1], all[i])
		}
	}
}

// TestEndsHearApart: what one of two ends hears and is told is nothing to the other.
func TestEndsHearApart(t *testing.T) {
	source := rand.New(rand.NewSource(6))
	c := someConfig(source)
	e, f := mustMake(t, c), mustMake(t, c)
	m, n := modelOf(c), modelOf(c)
	v, w := walker{source, m, looped}, walker{source, n, refused}
	for i := range 1000 {
		v.step(t, e, i)
		w.step(t, f, i)
	}
}

// TestToldGivesNewMemory: the spare room too, in which the end might put what it tells next.
func TestToldGivesNewMemory(t *testing.T) {
	e := mustMake(t, goodConfig())
	var want []int
	for i := range 40 {
		early := e.Told()
		e.Event([]int{api.Open, api.Close}[i%2])
		want = append(want, []int{api.Begins, api.Finished}[i%2])
		spoil(early, -7)
		late, later := e.Told(), e.Told()
		spoil(late, -8)
		if !slices.Equal(later, want) {
			t.Fatalf("P2: two answers of Told share memory: %v, want %v", later, want)
		}
		mustTell(t, e, want...)
		if slices.Contains(early, -8) {
			t.Fatalf("P2: an earlier answer of Told was written into: %v", early)
		}
	}
}

// TestAskingBetweenEvents: an end that is asked does what one does that is not.
func TestAskingBetweenEvents(t *testing.T) {
	c := goodConfig()
	asked, left := mustMake(t, c), mustMake(t, c)
	for i := range 500 {
		kind := []int{api.Open, api.Up, api.Tick, api.Tick, api.Tick, api.Close, api.Tick, api.Tick, api.Tick, api.Down, 6}[i%11]
		asked.State()
		asked.Told()
		asked.Agreed()
		got, want := string(asked.Event(kind)), string(left.Event(kind))
		in := []byte(frameBy(cellPackets()[i%5]))
		asked.Agreed()
		got, want = got+string(asked.Bytes(in)), want+string(left.Bytes(in))
		if got != want {
			t.Fatalf("P2: an end that was asked sends %x, one that was not %x", got, want)
		}
	}
	if !slices.Equal(asked.Told(), left.Told()) || asked.State() != left.State() {
		t.Errorf("P2: an end that was asked: %d, %v; one that was not: %d, %v", asked.State(), asked.Told(), left.State(), left.Told())
	}
}

// TestAskingChangesNothing: State, Told and Agreed, of a new end, any number of times.
func TestAskingChangesNothing(t *testing.T) {
	e := mustMake(t, goodConfig())
	for range 3 {
		told := e.Told()
		asked, agreed := e.Agreed()
		if len(told) != 0 || asked != (api.Terms{}) || agreed != (api.Terms{}) || e.State() != api.Initial {
			t.Errorf("P2: a new end that was only asked: %d, %v, %v, %v", e.State(), told, asked, agreed)
		}
		spoil(told, 9)
	}
}
