package tests

import (
	"slices"
	"testing"

	"loop.example/g00574/impl"
)

func TestDeskPlan(t *testing.T) {
	const text = "rec x.a>b{ask(int).b>c{ask(int).c>b{say(text).b>a{say(text).x}}},stop(none).b>c{stop(none).end}}"
	plan := impl.DeskPlan()
	if impl.PlanText(plan) != text || !slices.Equal(plan, impl.PlanRead(text).Plan) || !impl.Sound(plan) {
		t.Errorf("DeskPlan: got %v", plan)
	}
	plan[0].Name = "zz"
	if impl.PlanText(impl.DeskPlan()) != text {
		t.Error("two answers of DeskPlan share their memory")
	}
}
