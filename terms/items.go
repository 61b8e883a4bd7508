package terms

import "concord/api"

// Magic is the item that says the magic: it comes behind those of the options.
const Magic = len(api.Terms{}) + 1

const itemSize = 3

// Item is one of those that data are made of: which one, and its number.
type Item struct {
	Which, Number int
}

// Write makes the data of items, whose numbers must each fit into two bytes.
func Write(items []Item) string {
	b := make([]byte, 0, itemSize*len(items))
	for _, item := range items {
		b = append(b, byte(item.Which), byte(item.Number), byte(item.Number>>8))
	}
	return string(b)
}
