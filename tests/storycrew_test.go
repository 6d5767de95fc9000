package tests

import (
	"slices"
	"testing"

	"loop.example/g00610/impl"
)

// inTwo is what was put, and what was got, by the Events one by one.
func inTwo(l []impl.Event) (puts, gots []int64) {
	for _, e := range l {
		switch {
		case e.Put && e.Reply == impl.ReDone:
			puts = append(puts, e.Value)
		case !e.Put && e.Reply == impl.ReGot:
			gots = append(gots, e.Value)
		}
	}
	return puts, gots
}

func checkStory(t *testing.T, name string, c impl.Crew) []impl.Event {
	t.Helper()
	l := impl.StoryOf(c)
	checkEvents(t, name, l, c.Events)
	checkStoryOk(t, name, l, true)
	puts, gots := inTwo(c.Events)
	checkMoved(t, name, l, puts, gots)
	return l
}

// checkTimes wants of a story that was told turn by turn that nothing in it is
// Ahead of what stands before it, and that what one Hand did is in a row.
func checkTimes(t *testing.T, l []impl.Event) {
	t.Helper()
	checkOrder(t, l)
	for at, later := range l {
		for _, e := range l[:at] {
			checkAhead(t, "the later one", later, e, false)
			if e.Who == later.Who {
				checkAhead(t, "one hand's", e, later, true)
			}
		}
	}
}

func TestStoryOfDrawnTurns(t *testing.T) {
	events, atOneTime := 0, 0
	everyShift(t, 2, func(s *shift) {
		checkEvents(t, "a new crew", checkStory(t, "a new crew", s.crew), nil)
		s.run(t, 200, func(t *testing.T) { checkStory(t, "behind drawn turns", s.crew) })
		l := checkStory(t, "finished", impl.Finished(s.crew))
		checkTimes(t, l)
		events += len(l)
		for at := range l {
			if at > 0 && !impl.Ahead(l[at-1], l[at]) {
				atOneTime++
			}
		}
	})
	if events == 0 || atOneTime == 0 || atOneTime == events {
		t.Errorf("%d of %d at one time", atOneTime, events)
	}
}

// checkNothingLost wants what was put to be got, or to be on the Store still,
// as often as it was put, and nothing else to be.
func checkNothingLost(t *testing.T, c impl.Crew) {
	t.Helper()
	checkAllRest(t, c)
	l := impl.StoryOf(c)
	there := slices.Concat(impl.GotsIn(l), impl.ValuesIn(c.Store))
	puts := impl.PutsIn(l)
	slices.Sort(there)
	slices.Sort(puts)
	checkList(t, "what was got, and what is there", there, puts)
	if t.Failed() {
		t.Fatalf("%+v", c)
	}
}

func countReplies(l []impl.Event, replies []int) {
	for _, e := range l {
		replies[e.Reply]++
	}
}

func TestNothingIsLostOfNewCrews(t *testing.T) {
	replies := make([]int, lastReply+1)
	left, nothingLeft := 0, 0
	everyShift(t, 6, func(s *shift) {
		for range 3 {
			c := impl.Finished(s.crew)
			checkNothingLost(t, c)
			countReplies(impl.StoryOf(c), replies)
			if len(impl.ValuesIn(c.Store)) > 0 {
				left++
			} else {
				nothingLeft++
			}
			s.run(t, len(s.list)+int(s.draw(0, 100)), func(t *testing.T) {})
		}
	})
	for reply := impl.ReDone; reply <= lastReply; reply++ {
		if replies[reply] == 0 {
			t.Errorf("no Event has Reply %d", reply)
		}
	}
	if left == 0 || nothingLeft == 0 {
		t.Errorf("%d have something left, %d have not", left, nothingLeft)
	}
}

// fewValues are the jobs with many Values that are alike.
func fewValues(jobs [][]int64) [][]int64 {
	jobs = copiedJobs(jobs)
	for _, l := range jobs {
		for at, job := range l {
			if job != 0 {
				l[at] = 1 + job%2
			}
		}
	}
	return jobs
}

func TestNothingIsLostWhereValuesAreAlike(t *testing.T) {
	twice := 0
	everyShift(t, 4, func(s *shift) {
		s.run(t, int(s.draw(0, 200)), func(t *testing.T) {})
		jobs := fewValues(s.begun.Jobs)
		c, is := impl.NewCrew(s.begun.Store.Round, s.begun.Store.Most, jobs)
		if !is {
			t.Fatalf("%v", jobs)
		}
		c = impl.Finished(impl.Turns(c, s.list))
		checkStory(t, "alike", c)
		checkNothingLost(t, c)
		puts := impl.PutsIn(c.Events)
		slices.Sort(puts)
		twice += len(puts) - len(slices.Compact(puts))
	})
	if twice == 0 {
		t.Error("no Value was put twice")
	}
}

// A storyCall is one of chapter 11 that answers a list of a story.
type storyCall struct {
	name string
	do   func(l []impl.Event) []int64
}

func storyCalls() []storyCall {
	return []storyCall{{"PutsIn", impl.PutsIn}, {"GotsIn", impl.GotsIn}}
}

// storiesAndOthers are lists that are a story, and ones that are not.
func storiesAndOthers() map[string][]impl.Event {
	return map[string][]impl.Event{
		"no Events":      {},
		"right":          rightEvents(),
		"as many":        slices.Repeat(rightEvents(), 2),
		"too many":       slices.Repeat(rightEvents(), 3),
		"the last wrong": append(rightEvents(), impl.Event{}),
		"all wrong":      wrongEvents(),
	}
}

func TestStoryCallsLeaveTheirArgument(t *testing.T) {
	for name, given := range storiesAndOthers() {
		l := withSpareRoom(given, impl.Event{Who: 73})
		kept := slices.Clone(l[:len(l)+2])
		impl.StoryOk(l)
		for _, call := range storyCalls() {
			got := call.do(l)
			want := slices.Clone(got)
			second := call.do(l)
			checkEvents(t, call.name+", the argument, "+name, l[:len(l)+2], kept)
			spoilList(append(got, 1), -7)
			spoilList(got, -7)
			checkEvents(t, call.name+", the argument behind a change of the answer, "+name, l[:len(l)+2], kept)
			checkList(t, call.name+", another answer behind a change of the first, "+name, second, want)
		}
	}
}

func TestStoryCallsKeepTheirAnswers(t *testing.T) {
	for name, given := range storiesAndOthers() {
		for _, call := range storyCalls() {
			l := withSpareRoom(given, impl.Event{Who: 73})
			got := call.do(l)
			want := slices.Clone(got)
			spoilList(l, impl.Event{Who: -7})
			checkList(t, call.name+", the answer behind a change of the argument, "+name, got, want)
		}
	}
}

func TestStoryOfSharesNoMemory(t *testing.T) {
	one := impl.Event{Who: 73}
	for name, given := range crewsInUse() {
		c := roomyCrew(given)
		kept := copiedCrew(crewWithRoom(c))
		got, second := impl.StoryOf(c), impl.StoryOf(c)
		want := slices.Clone(got)
		checkCrew(t, "the argument, "+name, crewWithRoom(c), kept)
		spoilList(append(got, one), one)
		spoilList(got, one)
		checkCrew(t, "the argument behind a change of the answer, "+name, crewWithRoom(c), kept)
		checkEvents(t, "another answer behind a change of the first, "+name, second, want)
		spoilCrew(c)
		checkEvents(t, "the answer behind a change of the argument, "+name, second, want)
	}
}

// What is appended to the Events of a Crew is in their spare room.
func TestStoryOfHasRoomOfItsOwn(t *testing.T) {
	one, two := rightEvents()[2], rightEvents()[5]
	for name, given := range crewsInUse() {
		c := roomyCrew(given)
		got := append(impl.StoryOf(c), one)
		more := append(c.Events, two)
		checkEvents(t, "the answer and one more, "+name, got, append(slices.Clone(given.Events), one))
		checkEvents(t, "the Events and one more, "+name, more, append(slices.Clone(given.Events), two))
	}
}

func TestStoryOfLeavesWhatIsNotRight(t *testing.T) {
	for name, given := range wrongCrews() {
		c := roomyCrew(given)
		kept := copiedCrew(crewWithRoom(c))
		got := append(impl.StoryOf(c), impl.Event{})
		checkCrew(t, "the argument, "+name, crewWithRoom(c), kept)
		checkEvents(t, "none and one more, "+name, got, []impl.Event{{}})
	}
}
