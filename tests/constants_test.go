package tests

import (
	"testing"

	"loop.example/hatchway/impl"
)

// The numbers of the document's table, in its order.
func TestConstants(t *testing.T) {
	got := [...]int{
		impl.EndIn, impl.EndBox, impl.EndOut, impl.EndLast, impl.EndPort,
		impl.LineMax, impl.StrMax,
		impl.MapMost, impl.MapFirst,
		impl.SegMax, impl.RulMost, impl.BoxCtl, impl.BoxMost,
		impl.EvSend, impl.EvReply, impl.EvHear, impl.EvLose, impl.EvTwice, impl.EvBend, impl.EvData, impl.EvWord,
		impl.NetMax, impl.EvMaxRun, impl.CalmMax, impl.TldMax, impl.WldSides,
		impl.ToBoxOut, impl.ToOut, impl.ToBoxIn, impl.ToIn,
		impl.DskMaxLines,
	}
	want := [...]int{
		9, 50, 100, 109, 999,
		16, 120,
		6, 500,
		12, 5, 21, 3,
		1, 2, 3, 4, 5, 6, 7, 8,
		60, 400, 100, 60, 2,
		1, 2, 3, 4,
		200,
	}
	if got != want {
		t.Fatal(got)
	}
}
