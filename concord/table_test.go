package concord_test

import (
	"math/rand"
	"slices"
	"strings"
	"testing"

	"concord/api"
	"concord/concord"
)

// table is the document's, as it stands there.
const table = `
| | Initial | Starting | Closed | Stopped | Closing | Stopping | ReqSent | AckRcvd | AckSent | Opened |
| Up | Closed | irc scr ReqSent | - | - | - | - | - | - | - | - |
| Down | - | - | Initial | tls Starting | Initial | Starting | Starting | Starting | Starting | tld Starting |
| Open | tls Starting | - | irc scr ReqSent | - | Stopping | - | - | - | - | - |
| Close | - | tlf Initial | - | Closed | - | Closing | irt str Closing | irt str Closing | irt str Closing | tld irt str Closing |
| TO+ | - | - | - | - | str | str | scr | scr ReqSent | scr | - |
| TO- | - | - | - | - | tlf Closed | tlf Stopped | tlf Stopped | tlf Stopped | tlf Stopped | - |
`

// rows: of each row its cells, the first one that of the state 0; and the names of the states under "".
var rows = cells()

func cells() map[string][]string {
	rows := map[string][]string{}
	for _, row := range strings.Split(strings.TrimSpace(table), "\n") {
		list := strings.Split(strings.Trim(row, "| "), " | ")
		if len(rows) == 0 {
			rows[""] = list
		} else {
			rows[list[0]] = list[1:]
		}
	}
	return rows
}

// model is an end that reads the document's table.
type model struct {
	state, counter, timer int
	data                  string // of a Request
	told                  []int
	sent                  string // at the last event
	all                   int    // packets that were sent
}

func modelOf(c api.Config) *model {
	return &model{data: requestBy(c)}
}

// requestBy is the data of a Request of an end that was told events alone.
func requestBy(c api.Config) string {
	b := []byte{1, byte(c.Want[0][0]), 0, 2, byte(c.Want[1][0]), 0, 3, byte(c.Want[2][0]), 0}
	return string(append(b, 4, byte(c.Magic%256), byte(c.Magic/256)))
}

func (m *model) event(kind int) string {
	m.sent = ""
	names := map[int]string{1: "Up", 2: "Down", 3: "Open", 4: "Close"}
	if name := names[kind]; name != "" {
		m.row(name)
	} else if kind == 5 {
		m.tick()
	}
	return m.sent
}

func (m *model) tick() {
	if m.state < 4 || m.state > 8 || m.timer <= 0 {
		return
	}
	m.timer--
	if m.timer == 0 && m.counter > 0 {
		m.row("TO+")
	} else if m.timer == 0 {
		m.row("TO-")
	}
}

func (m *model) row(name string) {
	for _, word := range strings.Fields(rows[name][m.state]) {
		m.word(word)
	}
}

func (m *model) word(word string) {
	switch word {
	case "-":
	case "tlu", "tld", "tls", "tlf":
		m.told = append(m.told, 1+slices.Index([]string{"tlu", "tld", "tls", "tlf"}, word))
	case "irc":
		m.counter = 5
	case "irt":
		m.counter = 2
	case "scr":
		m.counted(1, m.data)
	case "str":
		m.counted(5, "")
	default:
		m.state = slices.Index(rows[""], word)
	}
}

func (m *model) counted(code int, data string) {
	m.counter--
	m.timer = 3
	m.all++
	m.sent += frameBy(api.Packet{Code: code, ID: m.all % 256, Data: data})
}

func TestTableIsWhole(t *testing.T) {
	if len(rows) != 7 {
		t.Errorf("the table of this test has %d rows", len(rows))
	}
	for name, row := range rows {
		if len(row) != 10 {
			t.Errorf("the row %q of this test has %d cells", name, len(row))
		}
	}
}

// step tells both the same, and holds one against the other.
func step(t *testing.T, e *concord.End, m *model, kind int, ahead any) {
	t.Helper()
	from := m.state
	want := m.event(kind)
	got := string(e.Event(kind))
	if got != want || e.State() != m.state || !slices.Equal(e.Told(), m.told) {
		t.Fatalf("P7: %v, then in the state %d the event %d: sent %x, told %v, state %d; want %x, %v, %d", ahead, from, kind, got, e.Told(), e.State(), want, m.told, m.state)
	}
}

// TestEveryCell: each event in each state, with counters and timers of all kinds.
func TestEveryCell(t *testing.T) {
	for state := range 10 {
		for kind := range 7 {
			for _, counter := range []int{-1 << 60, -1, 0, 1, 2, 3, 5} {
				for timer := range 4 {
					holdCell(t, kind, state, counter, timer)
				}
			}
		}
	}
}

// holdCell: one event, and ticks behind it: these show what counter and timer have become.
func holdCell(t *testing.T, kind, state, counter, timer int) {
	t.Helper()
	c := goodConfig()
	e, m := mustMake(t, c), modelOf(c)
	concord.Put(e, state, counter, timer)
	m.state, m.counter, m.timer = state, counter, timer
	ahead := []int{kind, state, counter, timer}
	step(t, e, m, kind, ahead)
	for range 30 {
		step(t, e, m, api.Tick, ahead)
	}
}

// TestEverySequence: all sequences of a few events, one that is none among them.
func TestEverySequence(t *testing.T) {
	c := goodConfig()
	row := make([]int, 6)
	for {
		e, m := mustMake(t, c), modelOf(c)
		for i, kind := range row {
			step(t, e, m, kind, row[:i])
		}
		if !next(row) {
			return
		}
	}
}

// next counts row on, with the digits 0 to 5.
func next(row []int) bool {
	for i := range row {
		if row[i]++; row[i] < 6 {
			return true
		}
		row[i] = 0
	}
	return false
}

// TestLongWalks: many events, most of them ticks, so that timers run out and the row of IDs goes round.
func TestLongWalks(t *testing.T) {
	source := rand.New(rand.NewSource(5))
	kinds := []int{api.Up, api.Up, api.Down, api.Open, api.Open, api.Close, 0, 6}
	for walk := range 30 {
		c := goodConfig()
		c.Magic = 1 + source.Intn(api.MaxMagic)
		e, m := mustMake(t, c), modelOf(c)
		for i := range 5000 {
			kind := api.Tick
			if source.Intn(4) == 0 {
				kind = kinds[source.Intn(len(kinds))]
			}
			step(t, e, m, kind, []int{walk, i})
		}
		if m.all <= 256 {
			t.Errorf("the walk %d of this test sends only %d packets", walk, m.all)
		}
	}
}
