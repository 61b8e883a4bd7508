package concord

import (
	"slices"

	"concord/api"
	"concord/terms"
)

const (
	magicTimes = 5
	magicPlus  = 3
)

// wishes: what an end wishes and accepts, and what it asks for now. It stands in this package since what another one exported would be exported by End as well.
type wishes struct {
	want, accept [3][]int
	hint         [3]int // the place in each Accept of what the next Nak names
	asked        api.Terms
	magic        int
	magics       map[int]struct{} // all that the magic is or was
}

// wishesOf copies the lists: they are the caller's, who may write into them.
func wishesOf(c api.Config) wishes {
	w := wishes{magics: map[int]struct{}{}}
	w.takeMagic(c.Magic)
	for i := range w.asked {
		w.want[i] = slices.Clone(c.Want[i])
		w.accept[i] = slices.Clone(c.Accept[i])
		w.asked[i] = w.want[i][0]
	}
	return w
}

// takeMagic remembers it too: a Request with it is this end's own, however late it comes back.
func (w *wishes) takeMagic(magic int) {
	w.magic = magic
	w.magics[magic] = struct{}{}
}

func (w *wishes) isOwnMagic(magic int) bool {
	_, own := w.magics[magic]
	return own
}

// asking is the data of a Request that is sent now.
func (w *wishes) asking() string {
	items := make([]terms.Item, 0, terms.Magic)
	for i, n := range w.asked {
		items = append(items, terms.Item{Which: i + 1, Number: n})
	}
	return terms.Write(append(items, terms.Item{Which: terms.Magic, Number: w.magic}))
}

// heed asks from now on for what a Nak names, as far as that is wished.
func (w *wishes) heed(items []terms.Item) {
	for _, item := range items {
		if item.Which == terms.Magic {
			w.takeMagic((magicTimes*w.magic + magicPlus) % (api.MaxMagic + 1))
		} else if i := item.Which - 1; slices.Contains(w.want[i], item.Number) {
			w.asked[i] = item.Number
		}
	}
}

func (w *wishes) isGood(item terms.Item) bool {
	if item.Which == terms.Magic {
		return !w.isOwnMagic(item.Number)
	}
	return slices.Contains(w.accept[item.Which-1], item.Number)
}

// notGood are those of a Request's items that are not.
func (w *wishes) notGood(items []terms.Item) []terms.Item {
	var bad []terms.Item
	for _, item := range items {
		if !w.isGood(item) {
			bad = append(bad, item)
		}
	}
	return bad
}

// naming is the data of a Nak of items that are not good. What it names of an Accept is used up by that: the next Nak names the next one.
func (w *wishes) naming(bad []terms.Item) string {
	named := make([]terms.Item, 0, len(bad))
	for _, item := range bad {
		named = append(named, terms.Item{Which: item.Which, Number: w.nextHint(item.Which)})
	}
	return terms.Write(named)
}

// nextHint is 0 for the magic, which no end can name for another.
func (w *wishes) nextHint(which int) int {
	if which == terms.Magic {
		return 0
	}
	i := which - 1
	n := w.accept[i][w.hint[i]]
	w.hint[i] = (w.hint[i] + 1) % len(w.accept[i])
	return n
}
