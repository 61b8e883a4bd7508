package concord_test

import (
	"math/rand"
	"slices"
	"strings"
	"testing"

	"concord/api"
	"concord/concord"
)

// pair: two ends on a line that keeps the order of frames.
type pair struct {
	config   [2]api.Config
	end      [2]*concord.End
	way      [2][]string // the frames on the way to each
	requests [2]int      // that each has sent
}

func pairOf(t *testing.T, c, d api.Config) *pair {
	t.Helper()
	return &pair{config: [2]api.Config{c, d}, end: [2]*concord.End{mustMake(t, c), mustMake(t, d)}}
}

// put lays what the end k has sent on its way.
func (p *pair) put(k int, sent []byte) {
	for _, inner := range strings.Split(string(sent), "~") {
		if inner != "" {
			p.way[1-k] = append(p.way[1-k], "~"+inner+"~")
			if inner[0] == api.Request {
				p.requests[k]++
			}
		}
	}
}

func (p *pair) tell(k, kind int) { p.put(k, p.end[k].Event(kind)) }

// deliver takes the first frame on the way to k.
func (p *pair) deliver(k int, lost bool) {
	frame := p.way[k][0]
	p.way[k] = p.way[k][1:]
	if !lost {
		p.put(k, p.end[k].Bytes([]byte(frame)))
	}
}

func (p *pair) areOpened() bool {
	return p.end[0].State() == api.Opened && p.end[1].State() == api.Opened
}

// holdTerms: what one asked for the other agreed on, of its Want and of the other's Accept.
func (p *pair) holdTerms(t *testing.T) {
	t.Helper()
	for k := range 2 {
		asked, _ := p.end[k].Agreed()
		_, agreed := p.end[1-k].Agreed()
		if asked != agreed {
			t.Fatalf("P10: %+v: asked for %v, agreed on %v", p.config, asked, agreed)
		}
		for i, n := range asked {
			if !slices.Contains(p.config[k].Want[i], n) || !slices.Contains(p.config[1-k].Accept[i], n) {
				t.Fatalf("P10: %+v: agreed on %v", p.config, agreed)
			}
		}
	}
}

// matched makes two configurations of which each has a number in its Want that the other one accepts, of each option.
func matched(r *rand.Rand, longest int) (api.Config, api.Config) {
	var c [2]api.Config
	for k := range c {
		for i := range 3 {
			c[k].Want[i] = r.Perm(256)[:1+r.Intn(longest)]
			c[1-k].Accept[i] = r.Perm(256)[:1+r.Intn(longest)]
			share(r, c[k].Want[i], c[1-k].Accept[i])
		}
	}
	c[0].Magic = 1 + r.Intn(api.MaxMagic)
	c[1].Magic = 1 + (c[0].Magic+r.Intn(api.MaxMagic-1))%api.MaxMagic
	return c[0], c[1]
}

// share lets the lists have one number in common.
func share(r *rand.Rand, want, accept []int) {
	n := want[r.Intn(len(want))]
	if !slices.Contains(accept, n) {
		accept[r.Intn(len(accept))] = n
	}
}

// choices is a row of them, counted through from run to run.
type choices struct {
	row []int
	at  int
}

// next is 0 or 1: as the row says, and 0 behind it.
func (c *choices) next() int {
	if c.at == len(c.row) {
		c.row = append(c.row, 0)
	}
	c.at++
	return c.row[c.at-1]
}

// more makes ready for the next run; false, if there is none.
func (c *choices) more() bool {
	c.row = c.row[:c.at]
	for len(c.row) > 0 && c.row[len(c.row)-1] == 1 {
		c.row = c.row[:len(c.row)-1]
	}
	c.at = 0
	if len(c.row) == 0 {
		return false
	}
	c.row[len(c.row)-1] = 1
	return true
}

// comeToTerms: both are told Open and Up, and frames are delivered, by choose, as long as there are any.
func comeToTerms(t *testing.T, p *pair, choose func() int) {
	t.Helper()
	for k := range 2 {
		p.tell(k, api.Open)
		p.tell(k, api.Up)
	}
	for len(p.way[0])+len(p.way[1]) > 0 {
		k := 0
		if len(p.way[0]) == 0 {
			k = 1
		} else if len(p.way[1]) > 0 {
			k = choose()
		}
		p.deliver(k, false)
	}
	if !p.areOpened() {
		t.Fatalf("P10: %+v: no frame was lost, and the states are %d, %d", p.config, p.end[0].State(), p.end[1].State())
	}
	p.holdTerms(t)
	for k := range 2 {
		mustTell(t, p.end[k], api.Begins, api.IsUp)
	}
}

// TestTwoInEveryOrder: all orders in which frames to the one and to the other may come.
func TestTwoInEveryOrder(t *testing.T) {
	r := rand.New(rand.NewSource(3))
	runs := 0
	for range 300 {
		c, d := matched(r, 5)
		for order := new(choices); ; {
			comeToTerms(t, pairOf(t, c, d), order.next)
			runs++
			if !order.more() {
				break
			}
		}
	}
	if runs < 10000 {
		t.Errorf("this test has only %d runs", runs)
	}
}

// TestTwoWithLongLists: the one number in both stands last in each.
func TestTwoWithLongLists(t *testing.T) {
	r := rand.New(rand.NewSource(4))
	var c, d api.Config
	for i := range 3 {
		c.Want[i], d.Accept[i] = []int{1, 2, 3, 4, 5, 6, 7, 0}, []int{11, 12, 13, 14, 15, 16, 17, 0}
		d.Want[i], c.Accept[i] = []int{21, 22, 23, 24, 25, 26, 27, 255}, []int{31, 32, 33, 34, 35, 36, 37, 255}
	}
	c.Magic, d.Magic = 1, 65535
	for range 50 {
		comeToTerms(t, pairOf(t, c, d), func() int { return r.Intn(2) })
	}
	for range 2000 {
		c, d := matched(r, api.MaxList)
		comeToTerms(t, pairOf(t, c, d), func() int { return r.Intn(2) })
	}
}

// TestTwoThatDoNotAgree: an option of which no number is in both; both know that they do not.
func TestTwoThatDoNotAgree(t *testing.T) {
	c, d := goodConfig(), goodConfig()
	d.Magic = 8
	d.Accept[1] = []int{1, 2, 3}
	p := pairOf(t, c, d)
	for k := range 2 {
		p.tell(k, api.Open)
		p.tell(k, api.Up)
	}
	for len(p.way[0])+len(p.way[1]) > 0 {
		for k := range 2 {
			if len(p.way[k]) > 0 {
				p.deliver(k, false)
			}
			if p.areOpened() {
				t.Fatal("P10: both are Opened, and do not agree")
			}
		}
	}
	mustTell(t, p.end[1], api.Begins, api.GivesUp, api.Finished)
}

// TestTwoOnABadLine: frames get lost, and the ends are told all kinds of events.
func TestTwoOnABadLine(t *testing.T) {
	r := rand.New(rand.NewSource(8))
	opened := 0
	for range 1500 {
		c, d := matched(r, 1+r.Intn(4))
		if r.Intn(4) == 0 {
			d.Accept[0] = []int{r.Intn(256)}
		}
		opened += holdOnABadLine(t, r, pairOf(t, c, d))
	}
	if opened < 2000 {
		t.Errorf("in this test both come to be Opened only %d times", opened)
	}
}

// holdOnABadLine tells how often both came to be Opened, ahead of the 256th Request.
func holdOnABadLine(t *testing.T, r *rand.Rand, p *pair) int {
	t.Helper()
	loss, rest := r.Intn(4), 5+r.Intn(60)
	opened := 0
	was := false
	for steps := 3000; steps > 0 && p.requests[0] < 250 && p.requests[1] < 250; steps-- {
		p.walk(r, loss, rest)
		is := p.areOpened()
		if is {
			p.holdTerms(t)
		}
		if is && !was {
			opened++
		}
		was = is
	}
	return opened
}

// walk: an event once in a while, ticks, and frames of which some are lost.
func (p *pair) walk(r *rand.Rand, loss, rest int) {
	k := r.Intn(2)
	switch {
	case r.Intn(rest) == 0:
		p.tell(k, []int{api.Open, api.Open, api.Up, api.Up, api.Close, api.Down}[r.Intn(6)])
	case r.Intn(5) == 0:
		p.tell(k, api.Tick)
	case len(p.way[k]) > 0:
		p.deliver(k, r.Intn(10) < loss)
	}
}

// TestHearingItself: the line leads back, and no frame is lost.
func TestHearingItself(t *testing.T) {
	e := starting(t, goodConfig())
	var all []string
	for b := e.Event(api.Up); len(b) > 0; b = e.Bytes(b) {
		all = append(all, string(b))
	}
	want := []string{
		ask(1, 5, 5, 5, 7), nak(1, -1, -1, -1, 0),
		ask(2, 5, 5, 5, 38), nak(2, -1, -1, -1, 0),
		ask(3, 5, 5, 5, 193), nak(3, -1, -1, -1, 0),
		ask(4, 5, 5, 5, 968), endFrame(5), frame(6, 5, ""),
	}
	if !slices.Equal(all, want) || e.State() != api.Closed {
		t.Errorf("P10: an end that hears itself sends %x, state %d; want %x", all, e.State(), want)
	}
	mustTell(t, e, api.Begins, api.Loops, api.Finished)
}

// TestHearingItselfInAnyOrder: frames lost, twice, late, and events of all kinds: it is never Opened.
func TestHearingItselfInAnyOrder(t *testing.T) {
	r := rand.New(rand.NewSource(9))
	loops := 0
	for range 300 {
		c, _ := matched(r, 4)
		for i := range 3 {
			c.Accept[i] = c.Want[i] // what it asks for it would take
		}
		e := mustMake(t, c)
		var sent []string
		for range 400 {
			var b []byte
			if len(sent) == 0 || r.Intn(5) == 0 {
				b = e.Event([]int{api.Open, api.Up, api.Open, api.Up, api.Tick, api.Tick, api.Tick, api.Close, api.Down}[r.Intn(9)])
			} else {
				i := r.Intn(len(sent))
				b = e.Bytes([]byte(sent[i]))
				if r.Intn(2) == 0 {
					sent = slices.Delete(sent, i, i+1)
				}
			}
			if len(b) > 0 {
				sent = append(sent, string(b))
			}
			if s := e.State(); s == api.Opened || s == api.AckSent {
				t.Fatalf("P10: %+v: an end that hears itself is in the state %d", c, s)
			}
		}
		if slices.Contains(e.Told(), api.Loops) {
			loops++
		}
	}
	if loops < 100 {
		t.Errorf("in this test Loops is told by %d ends", loops)
	}
}
