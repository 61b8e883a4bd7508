package concord

import (
	"slices"

	"concord/api"
	"concord/terms"
)

// wishes: what an end wishes and accepts, and what it asks for now. It stands in this package since what another one exported would be exported by End as well.
type wishes struct {
	want, accept [3][]int
	asked        api.Terms
	magic        int
}

// wishesOf copies the lists: they are the caller's, who may write into them.
func wishesOf(c api.Config) wishes {
	w := wishes{magic: c.Magic}
	for i := range w.asked {
		w.want[i] = slices.Clone(c.Want[i])
		w.accept[i] = slices.Clone(c.Accept[i])
		w.asked[i] = w.want[i][0]
	}
	return w
}

// asking is the data of a Request that is sent now.
func (w *wishes) asking() string {
	items := make([]terms.Item, 0, terms.Magic)
	for i, n := range w.asked {
		items = append(items, terms.Item{Which: i + 1, Number: n})
	}
	return terms.Write(append(items, terms.Item{Which: terms.Magic, Number: w.magic}))
}
