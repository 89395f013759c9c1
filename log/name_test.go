package log_test

import (
	"fmt"
	"math"
	"testing"

	"lagoon/api"
	"lagoon/log"
)

func TestName(t *testing.T) {
	for _, c := range []struct {
		number  int64
		segment int
		want    string
	}{
		{1, 1, "log.1.1"},
		{255, 10, "log.ff.a"},
		{0, 1, ""},
		{1, 4096, ""},
		{1, 4095, "log.1.fff"},
		{1, 0, ""},
		{1, -1, ""},
		{-1, 1, ""},
		{0, 0, ""},
		{16, 16, "log.10.10"},
		{9, 9, "log.9.9"},
		{math.MinInt64, 1, ""},
		{1, math.MinInt, ""},
		{1, math.MaxInt, ""},
		{1, 1<<32 + 1, ""},
		{math.MaxInt64, 1, "log.7fffffffffffffff.1"},
		{math.MaxInt64, 4095, "log.7fffffffffffffff.fff"},
		{math.MaxInt64, 4096, ""},
		{0xdeadbeef, 0xabc, "log.deadbeef.abc"},
	} {
		if s := log.Name(c.number, c.segment); s != c.want {
			t.Errorf("P10.1: Name(%d, %d): %q, not %q", c.number, c.segment, s, c.want)
		}
	}
}

// TestEveryName: each segment's, as Go's own library writes it; all of them are names that a disk takes.
func TestEveryName(t *testing.T) {
	for _, number := range []int64{1, 15, 16, 1 << 40, math.MaxInt64} {
		for segment := 1; segment <= 4095; segment++ {
			s := log.Name(number, segment)
			if want := fmt.Sprintf("log.%x.%x", number, segment); s != want || len(s) > api.MaxFile {
				t.Fatalf("P10.1: Name(%d, %d): %q, not %q", number, segment, s, want)
			}
		}
	}
	d := roomOf(t, 0)
	answers(t, "P10.1: the longest name on a disk", d.Append(log.Name(math.MaxInt64, 4095), nil), api.OK)
}
