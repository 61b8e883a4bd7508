package terms

import "concord/api"

// Magic is the item that says the magic: it comes behind those of the options.
const Magic = len(api.Terms{}) + 1

const itemSize = 3

// Item is one of those that data are made of: which one, and its number.
type Item struct {
	Which, Number int
}

// Write makes the data of items, whose numbers must each fit into two bytes.
func Write(items []Item) string {
	b := make([]byte, 0, itemSize*len(items))
	for _, item := range items {
		b = append(b, byte(item.Which), byte(item.Number), byte(item.Number>>8))
	}
	return string(b)
}

// Read reads data of one or more items in their order. Its error is an ItemsError.
func Read(data string) ([]Item, error) {
	if data == "" {
		return nil, &ItemsError{Why: ErrNone}
	}
	var items []Item
	last := 0
	for at := 0; at < len(data); at += itemSize {
		if len(data)-at < itemSize {
			return nil, &ItemsError{At: at, Why: ErrPart}
		}
		item := itemOf(data[at : at+itemSize])
		if item.Which <= last || item.Which > Magic {
			return nil, &ItemsError{At: at, Why: ErrOrder}
		}
		last = item.Which
		items = append(items, item)
	}
	return items, nil
}

// ReadAll reads data of all the items in their order. Its error is an ItemsError.
func ReadAll(data string) ([]Item, error) {
	items, err := Read(data)
	if err != nil {
		return nil, err
	}
	if len(items) < Magic {
		return nil, &ItemsError{At: len(data), Why: ErrMissing}
	}
	return items, nil
}

func itemOf(b string) Item {
	return Item{Which: int(b[0]), Number: int(b[1]) | int(b[2])<<8}
}

// Options are the options' numbers of items that were read.
func Options(items []Item) (t api.Terms) {
	for _, item := range items {
		if item.Which < Magic {
			t[item.Which-1] = item.Number
		}
	}
	return t
}
