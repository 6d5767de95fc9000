package tests

import (
	"slices"
	"testing"

	"loop.example/g00610/impl"
)

// withSpareRoom has two more behind its end, which nobody is to change.
func withSpareRoom[T any](l []T, one T) []T {
	l = append(slices.Clone(l), one, one)
	return l[: len(l)-2 : len(l)]
}

func roomyJobs(jobs [][]int64) [][]int64 {
	jobs = withSpareRoom(jobs, []int64{77, 76})
	for who := range jobs {
		jobs[who] = withSpareRoom(jobs[who], 75)
	}
	return jobs
}

// jobsWithRoom has the spare room of roomyJobs made part of it.
func jobsWithRoom(jobs [][]int64) [][]int64 {
	n := len(jobs)
	jobs = slices.Clone(jobs[:n+2])
	for who := range n {
		jobs[who] = jobs[who][:len(jobs[who])+2]
	}
	return jobs
}

func roomyCrew(c impl.Crew) impl.Crew {
	c.Store, c.Jobs = roomy(copied(c.Store)), roomyJobs(c.Jobs)
	c.Hands = withSpareRoom(c.Hands, busyHand(impl.AtSee))
	c.Begins = withSpareRoom(c.Begins, 74)
	c.Events = withSpareRoom(c.Events, impl.Event{Who: 73})
	return c
}

func crewWithRoom(c impl.Crew) impl.Crew {
	c.Store, c.Jobs = withRoom(c.Store), jobsWithRoom(c.Jobs)
	c.Hands = c.Hands[:len(c.Hands)+2]
	c.Begins = c.Begins[:len(c.Begins)+2]
	c.Events = c.Events[:len(c.Events)+2]
	return c
}

func checkJobs(t *testing.T, name string, got, want [][]int64) {
	t.Helper()
	if !slices.EqualFunc(got, want, slices.Equal[[]int64]) {
		t.Errorf("%s: %v, not %v", name, got, want)
	}
}

// spoilList changes all of it, and the room behind it.
func spoilList[T any](l []T, one T) {
	l = l[:cap(l)]
	for i := range l {
		l[i] = one
	}
}

func spoilJobs(jobs [][]int64) {
	for _, l := range jobs[:cap(jobs)] {
		spoilList(l, -7)
	}
	spoilList(jobs, []int64{-7})
}

func spoilCrew(c impl.Crew) {
	spoilStore(c.Store)
	spoilJobs(c.Jobs)
	spoilList(c.Hands, impl.Hand{At: -7})
	spoilList(c.Begins, -7)
	spoilList(c.Events, impl.Event{Who: -7})
}

// checkCrewListsApart wants that of all its lists of one kind each one stays
// when another one is spoilt.
func checkCrewListsApart(t *testing.T, name string, got impl.Crew) {
	t.Helper()
	checkListsApart(t, name, copiedCrew(got).Store)
	for who := range got.Jobs {
		want := copiedCrew(got)
		spoilList(got.Jobs[who], -7)
		kept := want.Jobs[who]
		want.Jobs[who] = got.Jobs[who]
		checkCrew(t, name+", the other lists", got, want)
		got.Jobs[who] = kept
	}
	want := copiedCrew(got)
	spoilList(got.Begins, -7)
	want.Begins = got.Begins
	checkCrew(t, name+", but for Begins", got, want)
}

// A crewCall is one of chapter 10 that answers a Crew of a Crew.
type crewCall struct {
	name string
	do   func(c impl.Crew) impl.Crew
}

func crewCalls() []crewCall {
	all := []crewCall{{"Finished", impl.Finished}}
	for who := int64(-1); who <= mostHands; who++ {
		all = append(all, crewCall{"Turn", func(c impl.Crew) impl.Crew { c, _ = impl.Turn(c, who); return c }})
	}
	for _, list := range [][]int64{nil, {9}, {3}, {0}, {0, 1, 2, 3, 2, 1, 0}, make([]int64, mostTurns), make([]int64, mostTurns+1)} {
		all = append(all, crewCall{"Turns", func(c impl.Crew) impl.Crew { return impl.Turns(c, list) }})
	}
	return all
}

// crewsInUse are right ones; of some of them no call does anything.
func crewsInUse() map[string]impl.Crew {
	return map[string]impl.Crew{
		"working":        workingCrew(),
		"at its end":     changedCrew(workingCrew(), clockIs(mostClock)),
		"nothing to do":  crewOf(3),
		"several rings":  changedCrew(workingCrew(), func(c *impl.Crew) { c.Store = filledStore(2, 4, 2, 2) }),
		"nothing behind": changedCrew(workingCrew(), eventsAre()),
		"all Events":     changedCrew(workingCrew(), eventsAre(slices.Repeat(rightEvents(), 2)...)),
	}
}

func TestCrewCallsShareNoMemoryWithTheArgument(t *testing.T) {
	for name, given := range crewsInUse() {
		for _, call := range crewCalls() {
			c := roomyCrew(given)
			kept := copiedCrew(crewWithRoom(c))
			got := call.do(c)
			want := copiedCrew(got)
			checkCrew(t, call.name+", the argument behind it, "+name, crewWithRoom(c), kept)
			second := call.do(c)
			spoilCrew(got)
			checkCrew(t, call.name+", the argument behind a change of the answer, "+name, crewWithRoom(c), kept)
			checkCrew(t, call.name+", another answer behind a change of the first, "+name, second, want)
			spoilCrew(c)
			checkCrew(t, call.name+", the answer behind a change of the argument, "+name, second, want)
		}
	}
}

func TestCrewCallsShareNoMemoryWithinAnAnswer(t *testing.T) {
	for name, given := range crewsInUse() {
		for _, call := range crewCalls() {
			checkCrewListsApart(t, call.name+", "+name, call.do(roomyCrew(given)))
		}
	}
}

// Lists of the argument may well be one list.
func TestCrewCallsOfListsThatAreOne(t *testing.T) {
	for _, call := range crewCalls() {
		one := []int64{0, 0, 0, 0}
		c := changedCrew(workingCrew(), clockIs(0), eventsAre())
		c.Jobs, c.Begins = [][]int64{one, one[1:], one[:2], one}, one
		c.Store = linkedStore(2, 3, -1, -1)
		c.Store.Rings[1].Places = c.Store.Rings[0].Places
		kept := copiedCrew(c)
		want := call.do(copiedCrew(c))
		got := call.do(c)
		checkCrew(t, call.name+" of one list", got, want)
		checkCrew(t, call.name+", the argument", c, kept)
		checkCrewListsApart(t, call.name+" of one list", got)
		spoilCrew(got)
		checkCrew(t, call.name+", the argument behind a change of the answer", c, kept)
	}
}

func TestCrewCallsLeaveWhatIsNotRight(t *testing.T) {
	for name, given := range wrongCrews() {
		c := roomyCrew(given)
		kept := copiedCrew(crewWithRoom(c))
		impl.CrewOk(c)
		for _, call := range crewCalls() {
			call.do(c)
		}
		checkCrew(t, "the argument, "+name, crewWithRoom(c), kept)
	}
}

func TestCrewOkLeavesItsArgument(t *testing.T) {
	for name, given := range crewsInUse() {
		c := roomyCrew(given)
		kept := copiedCrew(crewWithRoom(c))
		impl.CrewOk(c)
		checkCrew(t, "the argument, "+name, crewWithRoom(c), kept)
	}
}

func TestTurnsLeavesItsList(t *testing.T) {
	for _, n := range []int{0, 1, 7, mostTurns, mostTurns + 1} {
		list := withSpareRoom(slices.Repeat([]int64{2, 0, 1}, n)[:n], 72)
		kept := slices.Clone(list[:n+2])
		for name, c := range crewsInUse() {
			impl.Turns(c, list)
			checkList(t, "the list, "+name, list[:n+2], kept)
		}
		for name, c := range wrongCrews() {
			impl.Turns(c, list)
			checkList(t, "the list, "+name, list[:n+2], kept)
		}
	}
}
