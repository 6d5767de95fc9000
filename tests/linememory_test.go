package tests

import (
	"slices"
	"testing"

	"loop.example/g00610/impl"
)

// A lineCall is one of chapter 12 that answers a line.
type lineCall struct {
	name string
	do   func(l []int64) []int64
}

func putCall(value int64) lineCall {
	return lineCall{"LinePut", func(l []int64) []int64 {
		line, _ := impl.LinePut(l, value)
		return line
	}}
}

func explainsCall(name string, e impl.Event) lineCall {
	return lineCall{"Explains, " + name, func(l []int64) []int64 {
		line, _ := impl.Explains(l, e)
		return line
	}}
}

// lineCalls have one of each way that a line is answered; the first Value of
// lineOf is got by one of them.
func lineCalls() []lineCall {
	return []lineCall{
		putCall(7), putCall(0), putCall(mostValue + 1),
		{"LineTake", func(l []int64) []int64 {
			line, _, _ := impl.LineTake(l)
			return line
		}},
		explainsCall("done", putOf(7, impl.ReDone)),
		explainsCall("full", putOf(7, impl.ReFull)),
		explainsCall("got", takeOf(lineOf(1)[0], impl.ReGot)),
		explainsCall("another one got", takeOf(700, impl.ReGot)),
		explainsCall("none", takeOf(0, impl.ReEmpty)),
		explainsCall("no Event", impl.Event{}),
	}
}

func linesAndOthers() [][]int64 {
	all := [][]int64{lineOf(mostInLine + 1)}
	for _, n := range []int{0, 1, 2, 3, mostInLine - 1, mostInLine} {
		all = append(all, lineOf(n))
		if n > 0 {
			all = append(all, lineWith(lineOf(n), n-1, 0), lineWith(lineOf(n), 0, -1))
		}
	}
	return all
}

// A partLine stands within a longer list, which has more ahead of it, and,
// behind it, so much spare room; given is what it was made of.
type partLine struct{ given, whole, line []int64 }

func partOf(l []int64, room int) partLine {
	whole := slices.Concat([]int64{-71, -72}, l, []int64{-73, 74, -75, 76})
	return partLine{l, whole, whole[2 : 2+len(l) : 2+len(l)+room]}
}

func everyPart(do func(p partLine)) {
	for _, given := range linesAndOthers() {
		for room := range 4 {
			do(partOf(given, room))
		}
	}
}

func TestLineCallsLeaveTheirArgument(t *testing.T) {
	for _, call := range lineCalls() {
		everyPart(func(p partLine) {
			kept := slices.Clone(p.whole)
			impl.LineOk(p.line)
			got, second := call.do(p.line), call.do(p.line)
			want := slices.Clone(got)
			checkList(t, call.name+", the argument", p.whole, kept)
			spoilList(append(got, 1), -7)
			spoilList(got, -7)
			checkList(t, call.name+", the argument behind a change of the answer", p.whole, kept)
			checkList(t, call.name+", another answer behind a change of the first", second, want)
		})
	}
}

func TestLineCallsKeepTheirAnswers(t *testing.T) {
	for _, call := range lineCalls() {
		everyPart(func(p partLine) {
			got := call.do(p.line)
			want := slices.Clone(got)
			spoilList(p.whole, -7)
			checkList(t, call.name+", the answer behind a change of the argument", got, want)
		})
	}
}

// What is appended to an answer, and to the argument, does not meet.
func TestLinesHaveRoomOfTheirOwn(t *testing.T) {
	for _, call := range lineCalls() {
		everyPart(func(p partLine) {
			got := call.do(p.line)
			want := append(slices.Clone(got), 8)
			got = append(got, 8)
			more := append(p.line, 9)
			checkList(t, call.name+", the answer and one more", got, want)
			checkList(t, call.name+", the argument and one more", more, append(slices.Clone(p.given), 9))
		})
	}
}

// Of one line two others are made, each with a Value of its own behind it.
func TestTwoPutsIntoOneLine(t *testing.T) {
	everyPart(func(p partLine) {
		if !impl.LineOk(p.given) || len(p.given) == mostInLine {
			return
		}
		one, other := mustPut(t, p.line, 8), mustPut(t, p.line, 9)
		checkList(t, "the one", one, append(slices.Clone(p.given), 8))
		checkList(t, "the other", other, append(slices.Clone(p.given), 9))
	})
}
