package concord_test

import (
	"slices"
	"strings"
	"testing"

	"concord/api"
	"concord/concord"
)

// table is the document's, as it stands there.
const table = `
| | Initial | Starting | Closed | Stopped | Closing | Stopping | ReqSent | AckRcvd | AckSent | Opened |
| Up | Closed | irc scr ReqSent | - | - | - | - | - | - | - | - |
| Down | - | - | Initial | tls Starting | Initial | Starting | Starting | Starting | Starting | tld Starting |
| Open | tls Starting | - | irc scr ReqSent | - | Stopping | - | - | - | - | - |
| Close | - | tlf Initial | - | Closed | - | Closing | irt str Closing | irt str Closing | irt str Closing | tld irt str Closing |
| TO+ | - | - | - | - | str | str | scr | scr ReqSent | scr | - |
| TO- | - | - | - | - | tlf Closed | tlf Stopped | tlf Stopped | tlf Stopped | tlf Stopped | - |
| RCR+ | - | - | sta | irc scr sca AckSent | - | - | sca AckSent | sca tlu Opened | sca | tld scr sca AckSent |
| RCR- | - | - | sta | irc scr scn ReqSent | - | - | scn | scn | scn ReqSent | tld scr scn ReqSent |
| RCA | - | - | sta | sta | - | - | irc AckRcvd | scr ReqSent | irc tlu Opened | tld scr ReqSent |
| RCN | - | - | sta | sta | - | - | irc scr | scr ReqSent | irc scr | tld scr ReqSent |
| RTR | - | - | sta | sta | sta | sta | sta | sta ReqSent | sta ReqSent | tld zrc sta Stopping |
| RTA | - | - | - | - | tlf Closed | tlf Stopped | - | ReqSent | - | tld scr ReqSent |
| RUC | - | - | scj | scj | scj | scj | scj | scj | scj | scj |
| RXJ+ | - | - | - | - | - | - | - | ReqSent | - | - |
| RXJ- | - | - | tlf | tlf | tlf Closed | tlf Stopped | tlf Stopped | tlf Stopped | tlf Stopped | tld irt str Stopping |
| RXR | - | - | - | - | - | - | - | - | - | ser |
`

// rows: of each row its cells, the first one that of the state 0; and the names of the states under "".
var rows = cells()

func cells() map[string][]string {
	rows := map[string][]string{}
	for _, row := range strings.Split(strings.TrimSpace(table), "\n") {
		list := strings.Split(strings.Trim(row, "| "), " | ")
		if len(rows) == 0 {
			rows[""] = list
		} else {
			rows[list[0]] = list[1:]
		}
	}
	return rows
}

// cell is one of the table: a row and a state.
type cell struct {
	row   string
	state int
}

// model is an end that reads the document's table.
type model struct {
	config                api.Config
	state, counter, timer int
	ask                   api.Terms
	magics                []int // the last one is that which it has
	all, unknowns         int   // Requests and Ends, Unknowns that were sent
	named                 [3]int
	last                  *api.Packet
	terms                 [2]api.Terms
	naks, turns           int
	gathered              string
	got                   api.Packet
	bad                   []int // which items of it
	told                  []int
	sent                  string // at the last event
	seen                  map[cell]int
}

func modelOf(c api.Config) *model {
	m := &model{config: c, magics: []int{c.Magic}, seen: map[cell]int{}}
	for i := range m.ask {
		m.ask[i] = c.Want[i][0]
	}
	return m
}

// itemsBy are data of the items 1, 2, 3, 4; those below 0 are left out.
func itemsBy(numbers ...int) string {
	var b []byte
	for i, n := range numbers {
		if n >= 0 {
			b = append(b, byte(i+1), byte(n%256), byte(n/256))
		}
	}
	return string(b)
}

// numbersBy are the items' numbers, below 0 for those that there are not; how many there are, 0 if the data are no items.
func numbersBy(data string) (numbers [4]int, all int) {
	for i := range numbers {
		numbers[i] = -1
		if len(data) >= 3 && data[0] == byte(i+1) {
			numbers[i] = int(data[1]) + 256*int(data[2])
			data = data[3:]
			all++
		}
	}
	if data != "" {
		return numbers, 0
	}
	return numbers, all
}

// requestBy is the data of a Request of an end that was told events alone.
func requestBy(c api.Config) string {
	return itemsBy(c.Want[0][0], c.Want[1][0], c.Want[2][0], c.Magic)
}

func (m *model) event(kind int) string {
	m.sent = ""
	names := map[int]string{1: "Up", 2: "Down", 3: "Open", 4: "Close"}
	if name := names[kind]; name != "" {
		m.row(name)
	} else if kind == 5 {
		m.tick()
	}
	return m.sent
}

func (m *model) tick() {
	if m.state < 4 || m.state > 8 || m.timer <= 0 {
		return
	}
	m.timer--
	if m.timer == 0 && m.counter > 0 {
		m.row("TO+")
	} else if m.timer == 0 {
		m.row("TO-")
	}
}

func (m *model) bytes(b string) string {
	m.sent = ""
	pieces := strings.Split(m.gathered+b, "~")
	for _, piece := range pieces[:len(pieces)-1] {
		if piece == "" || len(piece) > 88 {
			continue
		}
		if p, err := unframeBy(piece); err == api.OK {
			m.receive(p)
		}
	}
	m.gathered = pieces[len(pieces)-1]
	return m.sent
}

func (m *model) receive(p api.Packet) {
	m.got = p
	numbers, all := numbersBy(p.Data)
	forLast := m.last != nil && m.last.ID == p.ID
	switch {
	case p.Code == 1 && all == 4:
		m.request(numbers)
	case p.Code == 2 && forLast && m.last.Data == p.Data:
		m.row("RCA")
	case p.Code == 3 && forLast && all > 0:
		m.heed(numbers)
		m.row("RCN")
	case p.Code == 5:
		m.row("RTR")
	case p.Code == 6:
		m.row("RTA")
	case p.Code == 7 && p.Data != "" && strings.Contains("\x01\x02\x03\x05\x06", p.Data[:1]):
		m.row("RXJ-")
	case p.Code == 7 && p.Data != "":
		m.row("RXJ+")
	case p.Code == 9:
		m.row("RXR")
	case p.Code == 4 || p.Code == 8 || p.Code > 10:
		m.row("RUC")
	}
}

func (m *model) request(numbers [4]int) {
	m.bad = nil
	for i, accept := range m.config.Accept {
		if !slices.Contains(accept, numbers[i]) {
			m.bad = append(m.bad, i)
		}
	}
	own := slices.Contains(m.magics, numbers[3])
	if own {
		m.bad = append(m.bad, 3)
	}
	if len(m.bad) == 0 {
		m.row("RCR+")
		return
	}
	if strings.Contains(rows["RCR-"][m.state], "scn") {
		ahead := m.turns
		if own {
			m.turns++
		}
		if own && ahead >= 3 {
			m.told = append(m.told, 6)
			m.row("Close")
			return
		}
		if m.naks >= 20 {
			m.told = append(m.told, 5)
			m.row("Close")
			return
		}
	}
	m.row("RCR-")
}

func (m *model) heed(numbers [4]int) {
	for i, want := range m.config.Want {
		if slices.Contains(want, numbers[i]) {
			m.ask[i] = numbers[i]
		}
	}
	if numbers[3] >= 0 {
		magic := (5*m.magics[len(m.magics)-1] + 3) % 65536
		m.magics = append(m.magics, magic)
	}
}

func (m *model) row(name string) {
	m.seen[cell{name, m.state}]++
	for _, word := range strings.Fields(rows[name][m.state]) {
		m.word(word)
	}
}

func (m *model) word(word string) {
	switch word {
	case "-":
	case "tlu", "tld", "tls", "tlf":
		m.told = append(m.told, 1+slices.Index([]string{"tlu", "tld", "tls", "tlf"}, word))
		if word == "tlu" {
			m.naks = 0
		}
	case "irc":
		m.counter = 5
	case "irt":
		m.counter = 2
	case "zrc":
		m.counter, m.timer = 0, 3
	case "scr":
		m.last = m.counted(1, itemsBy(m.ask[0], m.ask[1], m.ask[2], m.magics[len(m.magics)-1]))
		m.terms[0] = m.ask
	case "str":
		m.counted(5, "")
	case "sca":
		m.naks = 0
		numbers, _ := numbersBy(m.got.Data)
		m.terms[1] = api.Terms(numbers[:3])
		m.send(api.Packet{Code: 2, ID: m.got.ID, Data: m.got.Data})
	case "scn":
		m.naks++
		m.send(api.Packet{Code: 3, ID: m.got.ID, Data: m.hints()})
	case "sta":
		m.send(api.Packet{Code: 6, ID: m.got.ID})
	case "scj":
		m.unknowns++
		data := string([]byte{byte(m.got.Code), byte(m.got.ID)}) + m.got.Data
		if len(data) > 40 {
			data = data[:40]
		}
		m.send(api.Packet{Code: 7, ID: m.unknowns % 256, Data: data})
	case "ser":
		m.send(api.Packet{Code: 10, ID: m.got.ID, Data: m.got.Data})
	default:
		m.state = slices.Index(rows[""], word)
	}
}

// hints are the data of a Nak of what is bad.
func (m *model) hints() string {
	numbers := []int{-1, -1, -1, -1}
	for _, i := range m.bad {
		if i == 3 {
			numbers[3] = 0
			continue
		}
		accept := m.config.Accept[i]
		numbers[i] = accept[m.named[i]%len(accept)]
		m.named[i]++
	}
	return itemsBy(numbers...)
}

func (m *model) counted(code int, data string) *api.Packet {
	m.counter--
	m.timer = 3
	m.all++
	p := api.Packet{Code: code, ID: m.all % 256, Data: data}
	m.send(p)
	return &p
}

func (m *model) send(p api.Packet) { m.sent += frameBy(p) }

func TestTableIsWhole(t *testing.T) {
	if len(rows) != 17 {
		t.Errorf("the table of this test has %d rows", len(rows))
	}
	for name, row := range rows {
		if len(row) != 10 {
			t.Errorf("the row %q of this test has %d cells", name, len(row))
		}
		for _, word := range strings.Fields(strings.Join(row, " ")) {
			if !slices.Contains(rows[""], word) && !strings.Contains("- tlu tld tls tlf irc irt zrc scr str sca scn sta scj ser", word) {
				t.Errorf("the row %q of this test has the word %q", name, word)
			}
		}
	}
}

// step tells both the same, and holds one against the other.
func step(t *testing.T, e *concord.End, m *model, kind int, ahead any) {
	t.Helper()
	from := m.state
	want := m.event(kind)
	got := string(e.Event(kind))
	if !isLike(e, m) || got != want {
		t.Fatalf("P7: %v, then in the state %d the event %d: sent %x, told %v, state %d; want %x, %v, %d", ahead, from, kind, got, e.Told(), e.State(), want, m.told, m.state)
	}
}

// hear gives both the same bytes from the line, and holds one against the other.
func hear(t *testing.T, e *concord.End, m *model, b string, ahead any) {
	t.Helper()
	from := m.state
	want := m.bytes(b)
	got := string(e.Bytes([]byte(b)))
	if !isLike(e, m) || got != want {
		asked, agreed := e.Agreed()
		t.Fatalf("P6 to P9: %v, then in the state %d the bytes %x: sent %x, told %v, state %d, terms %v, %v; want %x, %v, %d, %v", ahead, from, b, got, e.Told(), e.State(), asked, agreed, want, m.told, m.state, m.terms)
	}
}

func isLike(e *concord.End, m *model) bool {
	asked, agreed := e.Agreed()
	return e.State() == m.state && slices.Equal(e.Told(), m.told) && asked == m.terms[0] && agreed == m.terms[1]
}
