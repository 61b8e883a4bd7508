// Package terms: what an end may wish and accept, and how packets say it.
package terms

import (
	"slices"

	"concord/api"
)

// IsConfig tells whether c is a configuration.
func IsConfig(c api.Config) bool {
	if c.Magic < 1 || c.Magic > api.MaxMagic {
		return false
	}
	for i := range c.Want {
		if !isList(c.Want[i]) || !isList(c.Accept[i]) {
			return false
		}
	}
	return true
}

// isList looks at the length first: a list of any length is refused in few steps.
func isList(list []int) bool {
	if len(list) < 1 || len(list) > api.MaxList {
		return false
	}
	for i, n := range list {
		if n < 0 || n > api.MaxValue || slices.Contains(list[:i], n) {
			return false
		}
	}
	return true
}
