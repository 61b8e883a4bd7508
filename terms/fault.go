package terms

import (
	"errors"
	"strconv"
)

// What may be wrong with data that should be items. They come in an ItemsError.
var (
	ErrNone    = errors.New("no item")
	ErrPart    = errors.New("a part of an item")
	ErrOrder   = errors.New("an item that is none, or out of its order")
	ErrMissing = errors.New("not all the items")
)

// ItemsError is what was met in data that are not the items that they should be.
type ItemsError struct {
	At  int // bytes that were good ahead of it
	Why error
}

func (e *ItemsError) Error() string {
	return "items, behind " + strconv.Itoa(e.At) + " bytes: " + e.Why.Error()
}

func (e *ItemsError) Unwrap() error { return e.Why }
