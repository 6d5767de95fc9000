package tests

import (
	"slices"
	"testing"

	"loop.example/g00610/impl"
)

func checkExplains(t *testing.T, name string, l []int64, e impl.Event, want []int64, wantIs bool) {
	t.Helper()
	got, is := impl.Explains(l, e)
	if is != wantIs || !slices.Equal(got, want) {
		t.Errorf("%s, %+v: %v, %v, not %v, %v", name, e, shortened(got), is, shortened(want), wantIs)
	}
}

// everyLine has no Values, and as many as there may be, and all between.
func everyLine() [][]int64 {
	all := [][]int64{nil}
	for n := range mostInLine + 1 {
		all = append(all, lineOf(n))
	}
	return all
}

func TestExplainsAPutThatIsDone(t *testing.T) {
	for _, value := range append(rightValues(), lineOf(1)[0]) {
		put := putOf(value, impl.ReDone)
		for _, l := range everyLine() {
			if len(l) == mostInLine {
				checkExplains(t, "into a full line", l, put, l, false)
				continue
			}
			checkExplains(t, "at its end", l, put, append(slices.Clone(l), value), true)
		}
	}
}

// It may have found no room for it on the carousels, so the line need not be
// full.
func TestExplainsAPutThatFoundNoRoom(t *testing.T) {
	for _, value := range rightValues() {
		for _, l := range everyLine() {
			checkExplains(t, "full", l, putOf(value, impl.ReFull), l, true)
		}
	}
}

func TestExplainsATakeOfTheFirst(t *testing.T) {
	for n := 1; n <= mostInLine; n++ {
		l := lineOf(n)
		checkExplains(t, "the first", l, takeOf(l[0], impl.ReGot), l[1:], true)
		for _, value := range rightValues() {
			l := slices.Repeat([]int64{value}, n)
			checkExplains(t, "alike", l, takeOf(value, impl.ReGot), l[1:], true)
		}
	}
}

func TestExplainsNoTakeOfAnother(t *testing.T) {
	const missing = 200
	for _, l := range everyLine() {
		checkExplains(t, "none of them", l, takeOf(missing, impl.ReGot), l, false)
		for at := 1; at < len(l); at++ {
			checkExplains(t, "further behind", l, takeOf(l[at], impl.ReGot), l, false)
		}
	}
	for _, value := range rightValues() {
		checkExplains(t, "of nil", nil, takeOf(value, impl.ReGot), nil, false)
		checkExplains(t, "of no Values", []int64{}, takeOf(value, impl.ReGot), nil, false)
		checkExplains(t, "of what was a line", []int64{value}[:0], takeOf(value, impl.ReGot), nil, false)
		if value > 1 {
			checkExplains(t, "one less", []int64{value, value - 1}, takeOf(value-1, impl.ReGot), []int64{value, value - 1}, false)
		}
	}
}

func TestExplainsATakeThatGotNone(t *testing.T) {
	for _, l := range everyLine() {
		checkExplains(t, "none", l, takeOf(0, impl.ReEmpty), l, len(l) == 0)
	}
}

// Who it was and when is nothing to the line.
func TestExplainsWhoeverAndWhenever(t *testing.T) {
	l := lineOf(3)
	for who := range int64(mostHands) {
		for _, end := range []int64{0, 1, 7, mostClock - 1, mostClock} {
			for _, begin := range []int64{0, end / 2, end} {
				at := func(e impl.Event) impl.Event {
					e.Who, e.Begin, e.End = who, begin, end
					return e
				}
				checkExplains(t, "done", l, at(putOf(9, impl.ReDone)), append(slices.Clone(l), 9), true)
				checkExplains(t, "full", l, at(putOf(9, impl.ReFull)), l, true)
				checkExplains(t, "got", l, at(takeOf(l[0], impl.ReGot)), l[1:], true)
				checkExplains(t, "none", nil, at(takeOf(0, impl.ReEmpty)), nil, true)
			}
		}
	}
}

// What rightEvents tell of is explained by one of these each, so that what
// refuses a wrong one is its being wrong.
func linesToExplain() [][]int64 {
	return [][]int64{nil, {1}, {mostValue}, {1, mostValue}, {mostValue, 1}, lineOf(2),
		lineOf(mostInLine - 1), lineOf(mostInLine), lineWith(lineOf(mostInLine), 0, mostValue)}
}

func TestEachRightEventIsExplained(t *testing.T) {
	for _, e := range rightEvents() {
		if !slices.ContainsFunc(linesToExplain(), func(l []int64) bool {
			_, is := impl.Explains(l, e)
			return is
		}) {
			t.Errorf("no line: %+v", e)
		}
	}
}

func TestExplainsNoEventThatIsWrong(t *testing.T) {
	for _, e := range wrongEvents() {
		for _, l := range linesToExplain() {
			checkExplains(t, "a wrong Event", l, e, l, false)
		}
	}
}

func TestExplainsOfNoLine(t *testing.T) {
	for _, l := range wrongLines() {
		for _, e := range append(rightEvents(), wrongEvents()...) {
			checkExplains(t, "no line", l, e, nil, false)
		}
		for _, value := range []int64{l[0], l[len(l)-1]} {
			checkExplains(t, "no line, one of it", l, takeOf(value, impl.ReGot), nil, false)
		}
	}
}

// explained is the line that all of them make, one after the other.
func explained(t *testing.T, l []impl.Event) []int64 {
	t.Helper()
	var line []int64
	for at, e := range l {
		then, is := impl.Explains(line, e)
		if !is {
			t.Fatalf("%v does not explain the one at %d of %+v", line, at, l)
		}
		line = then
	}
	return line
}

func TestExplainsEventByEvent(t *testing.T) {
	l := []impl.Event{takeOf(0, impl.ReEmpty), putOf(5, impl.ReDone), putOf(6, impl.ReDone), putOf(7, impl.ReFull),
		takeOf(5, impl.ReGot), putOf(5, impl.ReDone), takeOf(6, impl.ReGot), takeOf(5, impl.ReGot), takeOf(0, impl.ReEmpty)}
	for n, want := range [][]int64{nil, nil, {5}, {5, 6}, {5, 6}, {6}, {6, 5}, {5}, nil, nil} {
		checkList(t, "so many", explained(t, l[:n]), want)
	}
}

// everyWork has each list of Jobs that one Hand may have, where a put is of
// the number of the Job.
func everyWork() [][]int64 {
	all := [][]int64{nil}
	for from := 0; len(all[from]) < mostJobs; from++ {
		jobs := all[from]
		all = append(all, append(slices.Clone(jobs), 0), append(slices.Clone(jobs), 10+int64(len(jobs))))
	}
	return all
}

// One after the other is the one order there is of what one Hand did alone.
func TestWhatOneAloneDidIsExplained(t *testing.T) {
	replies := make([]int, lastReply+1)
	for _, jobs := range everyWork() {
		for round := int64(2); round <= 4; round++ {
			for most := int64(1); most <= 3; most++ {
				c := impl.Finished(newCrewOf(round, most, jobs))
				countReplies(c.Events, replies)
				checkList(t, "what is there", explained(t, impl.StoryOf(c)), impl.ValuesIn(c.Store))
			}
		}
	}
	for reply := impl.ReDone; reply <= lastReply; reply++ {
		if replies[reply] == 0 {
			t.Errorf("no Event has Reply %d", reply)
		}
	}
}
