package concord_test

import (
	"math/rand"
	"strings"
	"testing"

	"concord/api"
	"concord/concord"
)

// The moods of a walk: what comes more often than else.
const (
	even = iota
	ticking
	refused // Requests that are not good
	looped  // Requests with the end's own magic
	moods
)

// walker makes what an end may hear, most of it near to what the end waits for.
type walker struct {
	*rand.Rand
	m    *model
	mood int
}

// someConfig: short and long lists of few numbers, so that much is wished by one and accepted by the other.
func someConfig(r *rand.Rand) api.Config {
	c := api.Config{Magic: 1 + r.Intn(api.MaxMagic)}
	for i := range 3 {
		c.Want[i] = r.Perm(10)[:1+r.Intn(api.MaxList)]
		c.Accept[i] = r.Perm(10)[:1+r.Intn(api.MaxList)]
	}
	return c
}

func (w walker) one(list []int) int { return list[w.Intn(len(list))] }

// number: one of a list most often, else any.
func (w walker) number(list []int) int {
	if w.Intn(8) > 0 {
		return w.one(list)
	}
	return w.one([]int{w.Intn(10), 255, 256 + w.one(list), 65535})
}

func (w walker) magic() int {
	if w.mood == looped && w.Intn(3) == 0 {
		return w.one(w.m.magics)
	}
	return w.Intn(65536)
}

func (w walker) request() api.Packet {
	a := w.m.config.Accept
	if w.mood == refused && w.Intn(50) > 0 {
		return api.Packet{Code: 1, ID: w.Intn(256), Data: itemsBy(w.number(a[0]), 10, w.number(a[2]), w.magic())}
	}
	if w.mood == looped || w.Intn(3) == 0 {
		return api.Packet{Code: 1, ID: w.Intn(256), Data: itemsBy(w.number(a[0]), w.number(a[1]), w.number(a[2]), w.magic())}
	}
	return api.Packet{Code: 1, ID: w.Intn(256), Data: itemsBy(w.one(a[0]), w.one(a[1]), w.one(a[2]), w.Intn(65536))}
}

// lastID: that of the last Request most often.
func (w walker) lastID() int {
	if w.m.last == nil || w.Intn(10) == 0 {
		return w.one([]int{0, w.Intn(256), w.m.all % 256, (w.m.all + 255) % 256})
	}
	return w.m.last.ID
}

func (w walker) ack() api.Packet {
	p := api.Packet{Code: 2, ID: w.lastID()}
	if w.m.last != nil {
		p.Data = w.m.last.Data
	}
	return p
}

func (w walker) nak() api.Packet {
	numbers := make([]int, 4)
	for i := range numbers {
		numbers[i] = -1
		if i < 3 && w.Intn(2) == 0 {
			numbers[i] = w.number(w.m.config.Want[i])
		} else if i == 3 && w.Intn(4) == 0 {
			numbers[i] = w.Intn(65536)
		}
	}
	return api.Packet{Code: 3, ID: w.lastID(), Data: itemsBy(numbers...)}
}

func (w walker) data() string {
	b := make([]byte, w.one([]int{0, 1, 2, 3, 12, 37, 38, 39, 40}))
	for i := range b {
		b[i] = byte(w.one([]int{1, 5, 125, 126, w.Intn(256)}))
	}
	return string(b)
}

func (w walker) packet() api.Packet {
	switch w.Intn(12) {
	case 0, 1, 2:
		return w.request()
	case 3, 4, 5:
		return w.ack()
	case 6, 7:
		return w.nak()
	case 8:
		return api.Packet{Code: w.one([]int{5, 6}), ID: w.Intn(256)}
	case 9:
		return api.Packet{Code: 7, ID: w.Intn(256), Data: string([]byte{byte(w.Intn(12))})[:w.Intn(2)]}
	case 10:
		return api.Packet{Code: w.one([]int{9, 10, 4, 8}), ID: w.Intn(256), Data: w.data()}
	}
	return api.Packet{Code: 1 + w.Intn(255), ID: w.Intn(256), Data: w.data()}
}

// bent: a packet whose data are not as they should be.
func (w walker) bent(p api.Packet) api.Packet {
	if len(p.Data) < 3 {
		return p
	}
	at := w.Intn(len(p.Data))
	switch w.Intn(5) {
	case 0:
		p.Data = p.Data[:at]
	case 1:
		p.Data = p.Data[at:]
	case 2:
		p.Data = p.Data[len(p.Data)-3:] + p.Data[:len(p.Data)-3]
	case 3:
		p.Data += p.Data[:3]
	case 4:
		p.Data = p.Data[:at] + string([]byte{byte(w.Intn(256))}) + p.Data[at+1:]
	}
	p.Data = p.Data[:min(len(p.Data), api.MaxData)]
	return p
}

// bytes: a frame most often; else one that is spoilt, or what is none.
func (w walker) bytes() string {
	p := w.packet()
	if w.Intn(10) == 0 {
		p = w.bent(p)
	}
	b := frameBy(p)
	at := w.Intn(len(b))
	switch w.Intn(30) {
	case 0:
		return b[:at] + b[at+1:]
	case 1:
		return b[:at] + string([]byte{byte(w.Intn(256))}) + b[at+1:]
	case 2:
		return strings.Repeat("x", w.one([]int{1, 50, 88, 89, 90, 300}))
	case 3:
		return w.data()
	case 4:
		return b[1:]
	}
	return b
}

// TestWalksOfPackets: packets and events in all states, in frames that come in pieces and together, held against the end that reads the document's table; and that all its cells were come to, by what an end is told and hears alone.
func TestWalksOfPackets(t *testing.T) {
	source := rand.New(rand.NewSource(11))
	seen, told := map[cell]int{}, map[int]int{}
	for walk := range 200 {
		c := someConfig(source)
		e, m := mustMake(t, c), modelOf(c)
		w := walker{source, m, walk % moods}
		for i := range 1000 {
			w.step(t, e, []int{walk, i})
		}
		for k, n := range m.seen {
			seen[k] += n
		}
		for _, what := range m.told {
			told[what]++
		}
	}
	for name := range rows {
		for state := range 10 {
			if isMet(name, state) && seen[cell{name, state}] == 0 {
				t.Errorf("this test does not come to the row %s in the state %d", name, state)
			}
		}
	}
	for what := 1; what <= 6; what++ {
		if told[what] < 10 {
			t.Errorf("in this test %d is told %d times", what, told[what])
		}
	}
}

// isMet: a timer runs out only in the states in which it runs; and in AckRcvd the counter is 5, set by what led there, as long as the state is the same.
func isMet(name string, state int) bool {
	switch name {
	case "TO+":
		return state >= api.Closing && state <= api.AckSent
	case "TO-":
		return state >= api.Closing && state <= api.AckSent && state != api.AckRcvd
	}
	return name != ""
}

// step: an event, or bytes, of one frame, of two, or of a part of one.
func (w walker) step(t *testing.T, e *concord.End, ahead any) {
	t.Helper()
	if w.mood == ticking && w.Intn(10) > 0 {
		step(t, e, w.m, api.Tick, ahead)
		return
	}
	if w.Intn(4) == 0 {
		kinds := []int{api.Up, api.Up, api.Open, api.Open, api.Down, api.Close, api.Tick, api.Tick, api.Tick, api.Tick, api.Tick, api.Tick, api.Tick, 0}
		step(t, e, w.m, w.one(kinds), ahead)
		return
	}
	b := w.bytes()
	switch w.Intn(8) {
	case 0:
		b += w.bytes()
	case 1:
		at := w.Intn(len(b) + 1)
		hear(t, e, w.m, b[:at], ahead)
		b = b[at:]
	}
	hear(t, e, w.m, b, ahead)
}

// FuzzBytes: bytes of all kinds from the line, behind a Request.
func FuzzBytes(f *testing.F) {
	for _, p := range cellPackets() {
		f.Add(frameBy(p), frameBy(api.Packet{Code: 2, ID: 1, Data: requestBy(goodConfig())}))
	}
	f.Fuzz(func(t *testing.T, first, second string) {
		c := goodConfig()
		e, m := mustMake(t, c), modelOf(c)
		step(t, e, m, api.Open, nil)
		step(t, e, m, api.Up, nil)
		hear(t, e, m, first, nil)
		hear(t, e, m, second, first)
		tickOn(t, e, m, first+second)
	})
}
