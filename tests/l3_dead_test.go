package tests

import (
	"fmt"
	"slices"
	"testing"

	"loop.example/g01304/impl"
)

// Promise 3: first ways are around dead codes with the fewest turns.

func TestPromise3Example(t *testing.T) {
	l, dead := lockOf(2, 5), []string{"01", "10"}
	are, ok := impl.AreDead(l, dead)
	same(t, "AreDead", are, ok, true)
	n, ok := impl.FewestAround(l, dead, "00", "11")
	same(t, "FewestAround", n, ok, 5)
	n, ok = impl.DetourOf(l, dead, "00", "11")
	same(t, "DetourOf", n, ok, 3)
	turns, ok := impl.FirstAround(l, dead, "00", "11")
	sameList(t, "FirstAround", turns, ok, parsed(t, "0-0-0-1+0-"))
	dead = []string{"01", "04", "10", "40"}
	n, ok = impl.PartsOfLock(l, dead)
	same(t, "PartsOfLock", n, ok, 2)
	n, ok = impl.CountCutOff(l, dead, "00")
	same(t, "CountCutOff", n, ok, 20)
}

func TestPromise3Limits(t *testing.T) {
	same(t, "MaxSearched", impl.MaxSearched, true, 1000)
	same(t, "MaxDead", impl.MaxDead, true, 60)
}

func TestPromise3FirstWaysHaveTheFewestTurns(t *testing.T) {
	for _, c := range deadCases(smallLocks()) {
		live := liveOf(c.lock, c.dead)
		neighbours := neighboursOf(c.lock, live)
		for i := 0; i < len(live); i += 1 + len(live)/6 { // some ends in large locks are enough
			to := live[i]
			ways := waysTo(live, neighbours, to)
			for _, from := range live {
				what := fmt.Sprint(c, from, to)
				fewest := fewestIn(ways, from)
				n, ok := impl.CountAround(c.lock, c.dead, from, to)
				if fewest < 0 {
					same(t, "CountAround "+what, n, ok, 0)
					failsWithoutWay(t, what, c, from, to)
					continue
				}
				same(t, "CountAround "+what, n, ok, ways[fewest][from])
				n, ok = impl.FewestAround(c.lock, c.dead, from, to)
				same(t, "FewestAround "+what, n, ok, fewest)
				turns, ok := impl.FirstAround(c.lock, c.dead, from, to)
				sameList(t, "FirstAround "+what, turns, ok, firstIn(c.lock, ways, from))
				code, ok := impl.WalkAround(c.lock, c.dead, from, turns)
				same(t, "behind FirstAround "+what, code, ok, to)
				n, ok = impl.TurnThatMeets(c.lock, c.dead, from, turns)
				fails(t, "TurnThatMeets "+what, n, ok)
				distance, _ := impl.FewestTurns(c.lock, from, to)
				n, ok = impl.DetourOf(c.lock, c.dead, from, to)
				same(t, "DetourOf "+what, n, ok, fewest-distance)
			}
		}
	}
}

func failsWithoutWay(t *testing.T, what string, c deadCase, from string, to string) {
	t.Helper()
	n, ok := impl.FewestAround(c.lock, c.dead, from, to)
	fails(t, "FewestAround "+what, n, ok)
	turns, ok := impl.FirstAround(c.lock, c.dead, from, to)
	failsList(t, "FirstAround "+what, turns, ok)
	n, ok = impl.DetourOf(c.lock, c.dead, from, to)
	fails(t, "DetourOf "+what, n, ok)
	needed, ok := impl.NeededCodes(c.lock, c.dead, from, to)
	failsList(t, "NeededCodes "+what, needed, ok)
}

func TestPromise3CodesReachedAndCutOff(t *testing.T) {
	for _, c := range deadCases(smallLocks()) {
		live := liveOf(c.lock, c.dead)
		neighbours := neighboursOf(c.lock, live)
		for _, from := range live {
			what := fmt.Sprint(c, from)
			part := partWith(live, neighbours, from)
			ways := waysTo(live, neighbours, from)
			farthest := from
			for _, code := range part {
				if more := fewestIn(ways, code) - fewestIn(ways, farthest); more > 0 || more == 0 && code < farthest {
					farthest = code
				}
			}
			n, ok := impl.CountReached(c.lock, c.dead, from)
			same(t, "CountReached "+what, n, ok, len(part))
			n, ok = impl.CountCutOff(c.lock, c.dead, from)
			same(t, "CountCutOff "+what, n, ok, len(live)-len(part))
			code, n, ok := impl.FarthestAround(c.lock, c.dead, from)
			same(t, "FarthestAround "+what, code, ok, farthest)
			same(t, "the most turns "+what, n, ok, fewestIn(ways, farthest))
			code, ok = impl.FirstCutOff(c.lock, c.dead, from)
			cut := slices.IndexFunc(live, func(other string) bool { return !slices.Contains(part, other) })
			if cut < 0 {
				fails(t, "FirstCutOff "+what, code, ok)
			} else {
				same(t, "FirstCutOff "+what, code, ok, live[cut])
			}
			next := slices.Clone(neighbours[from])
			slices.Sort(next)
			codes, ok := impl.LiveNext(c.lock, c.dead, from)
			sameList(t, "LiveNext "+what, codes, ok, slices.Compact(next))
		}
	}
}

func TestPromise3PartsAndCuttingCodes(t *testing.T) {
	for _, c := range deadCases(smallLocks()) {
		what := fmt.Sprint(c)
		live := liveOf(c.lock, c.dead)
		parts := len(partsWith(c.lock, live))
		n, ok := impl.PartsOfLock(c.lock, c.dead)
		same(t, "PartsOfLock "+what, n, ok, parts)
		for _, code := range live {
			more := len(partsWith(c.lock, liveOf(c.lock, deadWith(c.dead, code)))) > parts
			is, ok := impl.IsCutting(c.lock, c.dead, code)
			same(t, "IsCutting "+what+code, is, ok, more)
		}
	}
}

func TestPromise3NeededCodes(t *testing.T) {
	locks := []impl.Lock{lockOf(1, 2), lockOf(1, 5), lockOf(1, 10), lockOf(2, 3), lockOf(2, 4), lockOf(2, 5), lockOf(3, 2), lockOf(3, 3), lockOf(4, 2)}
	for _, c := range deadCases(locks) {
		live := liveOf(c.lock, c.dead)
		needed := map[[2]string][]string{}
		for _, code := range live {
			for _, part := range partsWith(c.lock, live) {
				left := liveOf(c.lock, deadWith(c.dead, code))
				neighbours := neighboursOf(c.lock, left)
				for _, from := range part {
					reached := partWith(left, neighbours, from)
					for _, to := range part {
						if from != code && to != code && !slices.Contains(reached, to) {
							needed[[2]string{from, to}] = append(needed[[2]string{from, to}], code)
						}
					}
				}
			}
		}
		for _, part := range partsWith(c.lock, live) {
			for _, from := range part {
				for _, to := range part {
					got, ok := impl.NeededCodes(c.lock, c.dead, from, to)
					sameList(t, fmt.Sprint("NeededCodes ", c, from, to), got, ok, needed[[2]string{from, to}])
				}
			}
		}
	}
}

func TestPromise3TurnsThatMeetDeadCodes(t *testing.T) {
	for _, c := range deadCases([]impl.Lock{lockOf(1, 5), lockOf(2, 2), lockOf(2, 5), lockOf(3, 4), lockOf(6, 2)}) {
		turns := slices.Repeat(turnsOf(c.lock), 6)
		for i := range turns {
			turns[i] = turns[i*i*7%len(turns)]
		}
		for _, from := range liveOf(c.lock, c.dead) {
			what := fmt.Sprint(c, from)
			code, met := from, -1
			for i, turn := range turns {
				if code = turned(c.lock, code, turn); slices.Contains(c.dead, code) {
					met = i
					break
				}
			}
			i, ok := impl.TurnThatMeets(c.lock, c.dead, from, turns)
			got, fine := impl.WalkAround(c.lock, c.dead, from, turns)
			if met < 0 {
				fails(t, "TurnThatMeets "+what, i, ok)
				same(t, "WalkAround "+what, got, fine, code)
				continue
			}
			same(t, "TurnThatMeets "+what, i, ok, met)
			fails(t, "WalkAround "+what, got, fine)
			got, fine = impl.WalkAround(c.lock, c.dead, from, turns[:met])
			behind, _ := impl.TurnWheels(c.lock, from, turns[:met])
			same(t, "WalkAround up to there "+what, got, fine, behind)
		}
	}
}

func TestPromise3NoDeadCode(t *testing.T) {
	for _, l := range []impl.Lock{lockOf(1, 2), lockOf(2, 4), lockOf(3, 5), lockOf(4, 3), lockOf(6, 2)} {
		codes := codesOf(l)
		are, ok := impl.AreDead(l, nil)
		same(t, "AreDead", are, ok, true)
		n, ok := impl.PartsOfLock(l, []string{})
		same(t, "PartsOfLock", n, ok, 1)
		from := codes[len(codes)/3]
		for _, to := range codes {
			what := fmt.Sprint(l, from, to)
			straight, _ := impl.FirstTurns(l, from, to)
			turns, ok := impl.FirstAround(l, nil, from, to)
			sameList(t, "FirstAround "+what, turns, ok, straight)
			n, ok = impl.DetourOf(l, nil, from, to)
			same(t, "DetourOf "+what, n, ok, 0)
			fewest, _ := impl.CountFewest(l, from, to)
			n, ok = impl.CountAround(l, nil, from, to)
			same(t, "CountAround "+what, n, ok, fewest)
		}
		farthest, distance, _ := impl.FarthestCodes(l, from)
		code, n, ok := impl.FarthestAround(l, nil, from)
		same(t, "FarthestAround", code, ok, farthest[0])
		same(t, "the most turns", n, ok, distance)
		n, ok = impl.CountReached(l, nil, from)
		same(t, "CountReached", n, ok, len(codes))
		n, ok = impl.CountCutOff(l, nil, from)
		same(t, "CountCutOff", n, ok, 0)
		text, ok := impl.FirstCutOff(l, nil, from)
		fails(t, "FirstCutOff", text, ok)
		next, _ := impl.NextCodes(l, from)
		got, ok := impl.LiveNext(l, nil, from)
		sameList(t, "LiveNext", got, ok, next)
	}
}

func TestPromise3AllCodesDead(t *testing.T) {
	for _, l := range []impl.Lock{lockOf(1, 2), lockOf(1, 10), lockOf(2, 7), lockOf(3, 3), lockOf(5, 2)} {
		codes := codesOf(l)
		are, ok := impl.AreDead(l, codes)
		same(t, "AreDead", are, ok, true)
		n, ok := impl.PartsOfLock(l, codes)
		same(t, "PartsOfLock", n, ok, 0)
		failsWithCodes(t, fmt.Sprint(l), l, codes, codes[0], codes[1])
	}
}

func TestPromise3OneLiveCode(t *testing.T) {
	l := lockOf(2, 3)
	dead := []string{"00", "01", "02", "10", "11", "12", "20", "22"}
	n, ok := impl.PartsOfLock(l, dead)
	same(t, "PartsOfLock", n, ok, 1)
	n, ok = impl.CountReached(l, dead, "21")
	same(t, "CountReached", n, ok, 1)
	code, n, ok := impl.FarthestAround(l, dead, "21")
	same(t, "FarthestAround", code, ok, "21")
	same(t, "the most turns", n, ok, 0)
	code, ok = impl.FirstCutOff(l, dead, "21")
	fails(t, "FirstCutOff", code, ok)
	is, ok := impl.IsCutting(l, dead, "21")
	same(t, "IsCutting", is, ok, false)
	next, ok := impl.LiveNext(l, dead, "21")
	sameList(t, "LiveNext", next, ok, nil)
}

func TestPromise3CodeThatIsCutOffFromAllOthers(t *testing.T) {
	l, dead := lockOf(2, 5), []string{"01", "04", "10", "40"}
	n, ok := impl.CountReached(l, dead, "00")
	same(t, "CountReached", n, ok, 1)
	code, ok := impl.FirstCutOff(l, dead, "00")
	same(t, "FirstCutOff from 00", code, ok, "02")
	code, ok = impl.FirstCutOff(l, dead, "33")
	same(t, "FirstCutOff from 33", code, ok, "00")
	n, ok = impl.CountCutOff(l, dead, "33")
	same(t, "CountCutOff from 33", n, ok, 1)
	n, ok = impl.CountAround(l, dead, "00", "33")
	same(t, "CountAround", n, ok, 0)
	failsWithoutWay(t, "from 00", deadCase{l, dead}, "00", "33")
	failsWithoutWay(t, "to 00", deadCase{l, dead}, "33", "00")
	// Without a part of its own there are fewer parts, not more.
	is, ok := impl.IsCutting(l, dead, "00")
	same(t, "IsCutting", is, ok, false)
	next, ok := impl.LiveNext(l, dead, "00")
	sameList(t, "LiveNext", next, ok, nil)
}

func TestPromise3FromAndToTheSameCode(t *testing.T) {
	for _, dead := range [][]string{nil, {"01", "10"}, {"01", "04", "10", "40"}} {
		what, l := fmt.Sprint(dead), lockOf(2, 5)
		n, ok := impl.FewestAround(l, dead, "00", "00")
		same(t, "FewestAround "+what, n, ok, 0)
		turns, ok := impl.FirstAround(l, dead, "00", "00")
		sameList(t, "FirstAround "+what, turns, ok, nil)
		n, ok = impl.CountAround(l, dead, "00", "00")
		same(t, "CountAround "+what, n, ok, 1)
		n, ok = impl.DetourOf(l, dead, "00", "00")
		same(t, "DetourOf "+what, n, ok, 0)
		needed, ok := impl.NeededCodes(l, dead, "00", "00")
		sameList(t, "NeededCodes "+what, needed, ok, nil)
	}
}

func TestPromise3ListsOfNoTurns(t *testing.T) {
	l, dead := lockOf(2, 5), []string{"01", "04", "10", "40"}
	for _, turns := range [][]impl.Turn{nil, {}} {
		code, ok := impl.WalkAround(l, dead, "00", turns)
		same(t, "WalkAround", code, ok, "00")
		i, ok := impl.TurnThatMeets(l, dead, "00", turns)
		fails(t, "TurnThatMeets", i, ok)
	}
}

func TestPromise3FirstTurnThatMeets(t *testing.T) {
	l, dead := lockOf(2, 5), []string{"01", "10"}
	for text, want := range map[string]int{"0+": 0, "1+1+0+": 0, "0-0+1+": 2, "0-1+0+": 2, "0-0-0-1+0-0-": 5, "0-0-0-1+0-1-1+": 5} {
		i, ok := impl.TurnThatMeets(l, dead, "00", parsed(t, text))
		same(t, "TurnThatMeets "+text, i, ok, want)
		code, ok := impl.WalkAround(l, dead, "00", parsed(t, text))
		fails(t, "WalkAround "+text, code, ok)
	}
	code, ok := impl.WalkAround(l, dead, "00", parsed(t, "0-0-0-1+0-"))
	same(t, "WalkAround", code, ok, "11")
	// The code that a way begins at may be come to again.
	code, ok = impl.WalkAround(l, dead, "00", parsed(t, "0-0+1-1+"))
	same(t, "WalkAround there and back", code, ok, "00")
}

func TestPromise3NeededCodesOfCorridors(t *testing.T) {
	l := lockOf(1, 10)
	needed, ok := impl.NeededCodes(l, []string{"4"}, "2", "7")
	sameList(t, "NeededCodes back", needed, ok, []string{"0", "1", "8", "9"})
	needed, ok = impl.NeededCodes(l, nil, "2", "7")
	sameList(t, "NeededCodes of two ways", needed, ok, nil)
	n, ok := impl.CountAround(l, nil, "2", "7")
	same(t, "CountAround of two ways", n, ok, 2)
	is, ok := impl.IsCutting(l, []string{"4"}, "8")
	same(t, "IsCutting", is, ok, true)
	is, ok = impl.IsCutting(l, []string{"4"}, "5")
	same(t, "IsCutting at an end", is, ok, false)
	is, ok = impl.IsCutting(l, nil, "8")
	same(t, "IsCutting of a ring", is, ok, false)
	// Ways that need more turns count, too: the code 11 is on the only one of fewest turns.
	needed, ok = impl.NeededCodes(lockOf(2, 6), []string{"00", "02", "20", "22"}, "01", "21")
	sameList(t, "NeededCodes of a short cut", needed, ok, nil)
}

func TestPromise3BothTurnsOfTwoDigitsAreWays(t *testing.T) {
	l := lockOf(2, 2)
	turns, ok := impl.FirstAround(l, []string{"10"}, "00", "11")
	sameList(t, "FirstAround", turns, ok, parsed(t, "1+0+"))
	n, ok := impl.CountAround(l, []string{"10"}, "00", "11")
	same(t, "CountAround", n, ok, 4)
	n, ok = impl.CountAround(l, nil, "00", "11")
	same(t, "CountAround without dead codes", n, ok, 8)
	next, ok := impl.LiveNext(l, []string{"10"}, "00")
	sameList(t, "LiveNext", next, ok, []string{"01"})
}

// Rows of the second wheel, one behind the other, are joined at one end alone.
func TestPromise3LongWay(t *testing.T) {
	l := lockOf(2, 10)
	var dead []string
	for row := range 10 {
		for place := range 10 {
			if row%2 == 1 && place != row*7%10 || row == 9 {
				dead = append(dead, fmt.Sprint(row)+fmt.Sprint(place))
			}
		}
	}
	n, ok := impl.FewestAround(l, dead, "00", "85")
	same(t, "FewestAround", n, ok, 27)
	n, ok = impl.DetourOf(l, dead, "00", "85")
	same(t, "DetourOf", n, ok, 20)
	n, ok = impl.CountAround(l, dead, "00", "85")
	same(t, "CountAround", n, ok, 1)
	turns, ok := impl.FirstAround(l, dead, "00", "85")
	sameList(t, "FirstAround", turns, ok, parsed(t, "1-1-1-0+0+1+1+1+1+0+0+1+1+1+1+0+0+1+1+1+1+0+0+1-1-1-1-"))
	needed, ok := impl.NeededCodes(l, dead, "00", "85")
	sameList(t, "NeededCodes", needed, ok, []string{"07", "17", "21", "27", "31", "41", "45", "55", "65", "69", "79", "89"})
}

// mostDead returns as many dead codes as there may be, none of them 000.
func mostDead() []string {
	return codesOf(lockOf(3, 10))[1 : impl.MaxDead+1]
}

func TestPromise3LimitsMetExactly(t *testing.T) {
	for _, l := range []impl.Lock{lockOf(3, 10), lockOf(6, 3), lockOf(4, 5), lockOf(6, 2)} {
		codes := codesOf(l)
		are, ok := impl.AreDead(l, codes[:impl.MaxDead])
		same(t, fmt.Sprint("AreDead ", l), are, ok, true)
		n, ok := impl.CountReached(l, nil, codes[0])
		same(t, fmt.Sprint("CountReached ", l), n, ok, len(codes))
		n, ok = impl.PartsOfLock(l, codes[:impl.MaxDead])
		same(t, fmt.Sprint("PartsOfLock ", l), n, ok, 1)
	}
	l, dead := lockOf(3, 10), mostDead()
	n, ok := impl.CountCutOff(l, dead, "000")
	same(t, "CountCutOff", n, ok, 0)
	n, ok = impl.CountReached(l, dead, "000")
	same(t, "CountReached", n, ok, 940)
	turns, ok := impl.FirstAround(l, dead, "000", "061")
	sameList(t, "FirstAround", turns, ok, parsed(t, "1-1-1-2+1-"))
	n, ok = impl.DetourOf(l, dead, "000", "061")
	same(t, "DetourOf", n, ok, 0)
	next, ok := impl.LiveNext(l, dead, "000")
	sameList(t, "LiveNext", next, ok, []string{"090", "100", "900"})
	needed, ok := impl.NeededCodes(l, dead, "000", "555")
	sameList(t, "NeededCodes", needed, ok, nil)
	n, ok = impl.CountAround(l, nil, "000", "555")
	same(t, "CountAround", n, ok, 8*756756)
	code, n, ok := impl.FarthestAround(l, nil, "000")
	same(t, "FarthestAround", code, ok, "555")
	same(t, "the most turns", n, ok, 15)
}

// A code more that is dead does not make the list of those that are told too long.
func TestPromise3CuttingCodesBesideTheMostDeadOnes(t *testing.T) {
	l := lockOf(2, 10)
	var dead []string
	for i, code := range codesOf(l) {
		row, place := i/10, i%10
		if row == 9 || row%2 == 0 && place != row || row%2 == 1 && place == 0 || code == "79" {
			dead = append(dead, code)
		}
	}
	same(t, "dead codes", len(dead), true, impl.MaxDead)
	are, ok := impl.AreDead(l, dead)
	same(t, "AreDead", are, ok, true)
	parts := len(partsWith(l, liveOf(l, dead)))
	cutting := 0
	for _, code := range liveOf(l, dead) {
		more := len(partsWith(l, liveOf(l, deadWith(dead, code)))) > parts
		is, ok := impl.IsCutting(l, dead, code)
		same(t, "IsCutting "+code, is, ok, more)
		if more {
			cutting++
		}
	}
	if cutting == 0 {
		t.Error("some code should be cutting")
	}
	is, ok := impl.IsCutting(lockOf(3, 10), mostDead(), "500")
	same(t, "IsCutting", is, ok, false)
}
