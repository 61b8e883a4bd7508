package terms_test

import (
	"testing"

	"concord/api"
	"concord/terms"
)

func configOf(want, accept []int, magic int) api.Config {
	return api.Config{Want: [3][]int{want, want, want}, Accept: [3][]int{accept, accept, accept}, Magic: magic}
}

func TestIsConfig(t *testing.T) {
	one, eight, nine := []int{0}, []int{255, 0, 1, 2, 3, 4, 5, 6}, []int{0, 1, 2, 3, 4, 5, 6, 7, 8}
	for _, c := range []struct {
		name string
		c    api.Config
		want bool
	}{
		{"lists of 1 and 8, magic 1", configOf(one, eight, 1), true},
		{"lists of 8 and 1, magic 65535", configOf(eight, one, 65535), true},
		{"magic 0", configOf(one, eight, 0), false},
		{"magic 65536", configOf(one, eight, 65536), false},
		{"an empty Want", configOf(nil, eight, 1), false},
		{"an empty Accept", configOf(one, nil, 1), false},
		{"a Want of 9", configOf(nine, one, 1), false},
		{"an Accept of 9", configOf(one, nine, 1), false},
		{"a number twice", configOf(one, []int{3, 4, 3}, 1), false},
		{"a number below 0", configOf([]int{-1}, one, 1), false},
		{"a number above 255", configOf([]int{256}, one, 1), false},
	} {
		if terms.IsConfig(c.c) != c.want {
			t.Errorf("%s: IsConfig is not %v", c.name, c.want)
		}
	}
}
