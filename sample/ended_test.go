package sample

import (
	"slices"
	"testing"

	"mortise/api"
)

func TestEnded(t *testing.T) {
	ended := Ended{}
	for range 3 {
		ended.Add(api.Run{Status: api.Done, Code: 9})
		ended.Add(api.Run{Status: api.Done, Code: 1})
		ended.Add(api.Run{Status: api.Going})
		ended.Add(api.Run{Status: api.Trapped, Code: 1})
		ended.Add(api.Run{Status: api.Trapped, Code: 3})
	}
	for least, want := range [][]string{{}, {"trap 2", "trap 4"}, {"trap 2", "trap 4"}, {"trap 2", "trap 4"}, {"going", "trap 1", "trap 2", "trap 3", "trap 4"}} {
		if got := ended.Rare(least); !slices.Equal(got, want) {
			t.Errorf("%d: %v, want %v", least, got, want)
		}
	}
}
