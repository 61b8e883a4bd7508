package concord_test

import (
	"math"
	"testing"

	"concord/api"
	"concord/concord"
)

// goodConfig is new memory at each call.
func goodConfig() api.Config {
	c := api.Config{Magic: 7}
	for i := range c.Want {
		c.Want[i], c.Accept[i] = []int{5}, []int{5, 6}
	}
	return c
}

// eachList gives every list of a good configuration to change, each in a configuration of its own.
func eachList(change func(c *api.Config, list *[]int)) {
	for i := range 3 {
		c := goodConfig()
		change(&c, &c.Want[i])
		c = goodConfig()
		change(&c, &c.Accept[i])
	}
}

func mustMake(t *testing.T, c api.Config) *concord.End {
	t.Helper()
	e, err := concord.New(c)
	if e == nil || err != api.OK {
		t.Fatalf("P5: New(%v) = %v, %d, want an end", c, e, err)
	}
	if s := e.State(); s != api.Initial {
		t.Fatalf("P5: the state of a new end is %d, want Initial", s)
	}
	return e
}

func mustRefuse(t *testing.T, c api.Config) {
	t.Helper()
	if e, err := concord.New(c); e != nil || err != api.ErrConfig {
		t.Errorf("P5, P1: New(%v) = %v, %d, want ErrConfig alone", c, e, err)
	}
}

func TestNewGood(t *testing.T) {
	mustMake(t, goodConfig())
	for _, magic := range []int{1, 2, 65534, 65535} {
		c := goodConfig()
		c.Magic = magic
		mustMake(t, c)
	}
	for _, good := range [][]int{{0}, {255}, {0, 255}, {255, 0}, {7, 6, 5, 4, 3, 2, 1, 0}, {255, 254, 0, 1, 9, 128, 127, 8}} {
		eachList(func(c *api.Config, list *[]int) {
			*list = good
			mustMake(t, *c)
		})
	}
}

// TestNewSameList: numbers must be different within a list, not from list to list; and lists may be one memory.
func TestNewSameList(t *testing.T) {
	same := []int{3, 1, 2}
	c := api.Config{Magic: 9}
	for i := range 3 {
		c.Want[i], c.Accept[i] = same, same
	}
	mustMake(t, c)
}

func TestNewWrong(t *testing.T) {
	mustRefuse(t, api.Config{})
	mustRefuse(t, api.Config{Magic: 7})
	for _, magic := range []int{0, -1, 65536, 65537, math.MinInt, math.MaxInt} {
		c := goodConfig()
		c.Magic = magic
		mustRefuse(t, c)
	}
	many := make([]int, 1<<16)
	for i := range many {
		many[i] = i
	}
	for _, wrong := range [][]int{
		nil, {}, {1, 2, 3, 4, 5, 6, 7, 8, 9}, many, many[:256],
		{-1}, {256}, {5, -1}, {5, 256}, {math.MinInt}, {0, math.MaxInt}, {0, 1, 2, 3, 4, 5, 6, 256},
		{0, 0}, {255, 255}, {1, 2, 1}, {1, 2, 2}, {0, 1, 2, 3, 4, 5, 6, 0}, {0, 1, 2, 3, 4, 5, 6, 6},
	} {
		eachList(func(c *api.Config, list *[]int) {
			*list = wrong
			mustRefuse(t, *c)
		})
	}
}

// TestNoCallPanics: the calls of an end, too, at all numbers and lists.
func TestNoCallPanics(t *testing.T) {
	e := mustMake(t, goodConfig())
	for _, kind := range []int{math.MinInt, -1, 0, 1, 2, 3, 4, 5, 6, math.MaxInt} {
		e.Event(kind)
	}
	for _, b := range [][]byte{nil, {}, {api.Flag}, {api.Escape}, {0}, make([]byte, 1<<16)} {
		e.Bytes(b)
	}
	e.State()
	e.Told()
	e.Agreed()
}
