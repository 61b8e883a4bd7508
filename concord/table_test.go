package concord_test

import (
	"math/rand"
	"strings"
	"testing"

	"concord/api"
	"concord/concord"
)

// eachStanding gives all kinds of counters and timers.
func eachStanding(hold func(counter, timer int)) {
	for _, counter := range []int{-1 << 60, -1, 0, 1, 2, 3, 5} {
		for timer := range 4 {
			hold(counter, timer)
		}
	}
}

// put lays both into a state, with a counter and a timer.
func put(e *concord.End, m *model, state, counter, timer int) {
	concord.Put(e, state, counter, timer)
	m.state, m.counter, m.timer = state, counter, timer
}

// tickOn shows what counter and timer have become.
func tickOn(t *testing.T, e *concord.End, m *model, ahead any) {
	t.Helper()
	for range 30 {
		step(t, e, m, api.Tick, ahead)
	}
}

// TestEveryCell: each event in each state.
func TestEveryCell(t *testing.T) {
	for state := range 10 {
		for kind := range 7 {
			eachStanding(func(counter, timer int) {
				c := goodConfig()
				e, m := mustMake(t, c), modelOf(c)
				put(e, m, state, counter, timer)
				ahead := []int{kind, state, counter, timer}
				step(t, e, m, kind, ahead)
				tickOn(t, e, m, ahead)
			})
		}
	}
}

// cellPackets: of each row that packets lead to at least one, of an end that has sent its Request 1.
func cellPackets() []api.Packet {
	own := requestBy(goodConfig())
	list := []api.Packet{
		{Code: 1, ID: 9, Data: itemsBy(5, 6, 5, 8)},
		{Code: 1, ID: 9, Data: itemsBy(5, 7, 9, 8)},
		{Code: 1, ID: 9, Data: own},
		{Code: 2, ID: 1, Data: own},
		{Code: 3, ID: 1, Data: itemsBy(5, -1, 6, 1)},
		{Code: 5, ID: 200}, {Code: 5, ID: 0, Data: "why"},
		{Code: 6, ID: 1}, {Code: 6, ID: 77, Data: "x"},
		{Code: 9, ID: 3, Data: "hello"}, {Code: 9, ID: 0},
		{Code: 10, ID: 3, Data: "hello"}, {Code: 10},
		{Code: 7, ID: 1},
	}
	for first := range 256 {
		list = append(list, api.Packet{Code: 7, ID: 1, Data: string([]byte{byte(first), 1, 1})[:1+first%3]})
	}
	for code := 1; code <= 255; code++ {
		list = append(list, api.Packet{Code: code, ID: code * 7 % 256}, api.Packet{Code: code, ID: 4, Data: "data"})
	}
	return list
}

// TestEveryCellOfPackets: each packet in each state, whether a Request was sent ahead or not, and with counters and timers of all kinds where it is one of each row.
func TestEveryCellOfPackets(t *testing.T) {
	seen := map[cell]int{}
	for i, p := range cellPackets() {
		for state := range 10 {
			eachStanding(func(counter, timer int) {
				if i > 30 && (counter != 2 || timer != 2) {
					return
				}
				for _, ahead := range [][]int{nil, {api.Open, api.Up}} {
					c := goodConfig()
					e, m := mustMake(t, c), modelOf(c)
					for _, kind := range ahead {
						step(t, e, m, kind, ahead)
					}
					put(e, m, state, counter, timer)
					hear(t, e, m, frameBy(p), []any{ahead, state, counter, timer, p})
					hear(t, e, m, frameBy(p), []any{ahead, state, counter, timer, p})
					tickOn(t, e, m, p)
					for k, n := range m.seen {
						seen[k] += n
					}
				}
			})
		}
	}
	for name := range rows {
		for state := range 10 {
			if strings.HasPrefix(name, "R") && seen[cell{name, state}] == 0 {
				t.Errorf("this test does not come to the row %s in the state %d", name, state)
			}
		}
	}
}

// TestEverySequence: all sequences of a few events, one that is none among them.
func TestEverySequence(t *testing.T) {
	c := goodConfig()
	row := make([]int, 6)
	for {
		e, m := mustMake(t, c), modelOf(c)
		for i, kind := range row {
			step(t, e, m, kind, row[:i])
		}
		if !next(row) {
			return
		}
	}
}

// next counts row on, with the digits 0 to 5.
func next(row []int) bool {
	for i := range row {
		if row[i]++; row[i] < 6 {
			return true
		}
		row[i] = 0
	}
	return false
}

// TestLongWalks: many events, most of them ticks, so that timers run out and the row of IDs goes round.
func TestLongWalks(t *testing.T) {
	source := rand.New(rand.NewSource(5))
	kinds := []int{api.Up, api.Up, api.Down, api.Open, api.Open, api.Close, 0, 6}
	for walk := range 30 {
		c := goodConfig()
		c.Magic = 1 + source.Intn(api.MaxMagic)
		e, m := mustMake(t, c), modelOf(c)
		for i := range 5000 {
			kind := api.Tick
			if source.Intn(4) == 0 {
				kind = kinds[source.Intn(len(kinds))]
			}
			step(t, e, m, kind, []int{walk, i})
		}
		if m.all <= 256 {
			t.Errorf("the walk %d of this test sends only %d packets", walk, m.all)
		}
	}
}
