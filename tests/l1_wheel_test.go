package tests

import (
	"fmt"
	"slices"
	"strings"
	"testing"

	"loop.example/g01304/impl"
)

// Promise 1: turns change one wheel and are taken back.

func TestPromise1Example(t *testing.T) {
	l := lockOf(3, 10)
	n, ok := impl.FewestTurns(l, "000", "917")
	same(t, "FewestTurns", n, ok, 5)
	turns, ok := impl.FirstTurns(l, "000", "917")
	sameList(t, "FirstTurns", turns, ok, []impl.Turn{turnBy(0, -1), turnBy(1, 1), turnBy(2, -1), turnBy(2, -1), turnBy(2, -1)})
	text, ok := impl.TurnsText(turns)
	same(t, "TurnsText", text, ok, "0-1+2-2-2-")
	n, ok = impl.CountFewest(l, "000", "917")
	same(t, "CountFewest", n, ok, 20)
	n, ok = impl.CountAtDistance(l, 1)
	same(t, "CountAtDistance", n, ok, 6)
	codes, distance, ok := impl.FarthestCodes(l, "000")
	sameList(t, "FarthestCodes", codes, ok, []string{"555"})
	same(t, "greatest distance", distance, ok, 15)
	over, under, ok := impl.MeanDistance(l)
	same(t, "MeanDistance", [2]int{over, under}, ok, [2]int{15, 2})
}

func TestPromise1Limits(t *testing.T) {
	same(t, "MaxWheels", impl.MaxWheels, true, 6)
	same(t, "MaxTurns", impl.MaxTurns, true, 200)
	same(t, "MaxWays", impl.MaxWays, true, 1000000000000000)
}

func TestPromise1TurnsChangeOneWheelAndAreTakenBack(t *testing.T) {
	for _, l := range smallLocks() {
		for _, code := range codesOf(l) {
			for _, turn := range turnsOf(l) {
				what := fmt.Sprint(l, code, turn)
				got, ok := impl.TurnWheel(l, code, turn)
				same(t, what, got, ok, turned(l, code, turn))
				backTurns, ok := impl.BackTurns(l, []impl.Turn{turn})
				sameList(t, what, backTurns, ok, []impl.Turn{turnBy(turn.Wheel, -turn.By)})
				got, ok = impl.TurnWheels(l, got, backTurns)
				same(t, what, got, ok, code)
			}
		}
	}
}

func TestPromise1ListsOfTurns(t *testing.T) {
	l := lockOf(3, 10)
	turns := parsed(t, "0-0-1+2+2+2-")
	code, ok := impl.TurnWheels(l, "199", turns)
	same(t, "TurnWheels", code, ok, "900")
	backTurns, ok := impl.BackTurns(l, turns)
	sameList(t, "BackTurns", backTurns, ok, parsed(t, "2+2-2-1-0+0+"))
	code, ok = impl.TurnWheels(l, code, backTurns)
	same(t, "taken back", code, ok, "199")
	code, ok = impl.TurnWheels(l, "199", nil)
	same(t, "no turns", code, ok, "199")
	backTurns, ok = impl.BackTurns(l, nil)
	sameList(t, "no turns back", backTurns, ok, nil)
}

func TestPromise1FewestTurnsAreThoseOfSearch(t *testing.T) {
	for _, l := range smallLocks() {
		for _, to := range codesOf(l) {
			routes := routesFrom(l, to)
			for _, from := range codesOf(l) {
				what := fmt.Sprint(l, from, to)
				n, ok := impl.FewestTurns(l, from, to)
				same(t, "FewestTurns "+what, n, ok, routes[from].length)
				n, ok = impl.CountFewest(l, from, to)
				same(t, "CountFewest "+what, n, ok, routes[from].ways)
				turns, ok := impl.FirstTurns(l, from, to)
				sameList(t, "FirstTurns "+what, turns, ok, firstRoute(l, from, routes))
				code, ok := impl.TurnWheels(l, from, turns)
				same(t, "behind FirstTurns "+what, code, ok, to)
			}
		}
	}
}

func TestPromise1DistancesAreThoseOfSearch(t *testing.T) {
	for _, l := range smallLocks() {
		for _, code := range codesOf(l) {
			what := fmt.Sprint(l, code)
			routes := routesFrom(l, code)
			most, total := 0, 0
			for _, r := range routes {
				most, total = max(most, r.length), total+r.length
			}
			codes, ok := impl.NextCodes(l, code)
			sameList(t, "NextCodes "+what, codes, ok, codesWith(l, routes, 1))
			codes, distance, ok := impl.FarthestCodes(l, code)
			sameList(t, "FarthestCodes "+what, codes, ok, codesWith(l, routes, most))
			same(t, "greatest distance "+what, distance, ok, most)
			for asked := range 101 {
				n, ok := impl.CountAtDistance(l, asked)
				same(t, fmt.Sprint("CountAtDistance ", l, asked), n, ok, len(codesWith(l, routes, asked)))
			}
			over, under, ok := impl.MeanDistance(l)
			if !ok || over*len(routes) != total*under {
				t.Errorf("MeanDistance %v: %d / %d, %v", l, over, under, ok)
			}
			for divisor := 2; divisor <= under; divisor++ {
				if over%divisor == 0 && under%divisor == 0 {
					t.Errorf("MeanDistance %v: %d / %d is not in lowest terms", l, over, under)
				}
			}
		}
	}
}

func TestPromise1CodesAndNumbers(t *testing.T) {
	for _, l := range smallLocks() {
		codes := codesOf(l)
		n, ok := impl.CountCodes(l)
		same(t, fmt.Sprint("CountCodes ", l), n, ok, len(codes))
		zeros, ok := impl.ZeroCode(l)
		same(t, fmt.Sprint("ZeroCode ", l), zeros, ok, codes[0])
		for number, code := range codes {
			what := fmt.Sprint(l, code)
			is, ok := impl.IsCode(l, code)
			same(t, "IsCode "+what, is, ok, true)
			n, ok := impl.NumberOfCode(l, code)
			same(t, "NumberOfCode "+what, n, ok, number)
			back, ok := impl.CodeOfNumber(l, number)
			same(t, "CodeOfNumber "+what, back, ok, code)
		}
		code, ok := impl.CodeOfNumber(l, len(codes))
		fails(t, fmt.Sprint("CodeOfNumber behind the last one ", l), code, ok)
		code, ok = impl.CodeOfNumber(l, -1)
		fails(t, fmt.Sprint("CodeOfNumber before the first one ", l), code, ok)
	}
}

func TestPromise1SumsAndOpposites(t *testing.T) {
	for _, l := range smallLocks() {
		codes := codesOf(l)
		for i, a := range codes {
			b := codes[(7*i+3)%len(codes)]
			sum := a
			for wheel := range l.Wheels {
				for range b[wheel] - '0' {
					sum = turned(l, sum, turnBy(wheel, 1))
				}
			}
			got, ok := impl.AddCodes(l, a, b)
			same(t, fmt.Sprint("AddCodes ", l, a, b), got, ok, sum)
			opposite, ok := impl.OppositeCode(l, a)
			zeros, fine := impl.AddCodes(l, a, opposite)
			same(t, fmt.Sprint("OppositeCode ", l, a), zeros, ok && fine, codes[0])
		}
	}
	code, ok := impl.AddCodes(lockOf(3, 10), "917", "285")
	same(t, "AddCodes", code, ok, "192")
	code, ok = impl.OppositeCode(lockOf(3, 10), "907")
	same(t, "OppositeCode", code, ok, "103")
}

func TestPromise1OneWheel(t *testing.T) {
	l := lockOf(1, 5)
	codes, ok := impl.NextCodes(l, "0")
	sameList(t, "NextCodes", codes, ok, []string{"1", "4"})
	codes, distance, ok := impl.FarthestCodes(l, "4")
	sameList(t, "FarthestCodes", codes, ok, []string{"1", "2"})
	same(t, "greatest distance", distance, ok, 2)
	over, under, ok := impl.MeanDistance(l)
	same(t, "MeanDistance", [2]int{over, under}, ok, [2]int{6, 5})
	turns, ok := impl.FirstTurns(l, "4", "1")
	sameList(t, "FirstTurns", turns, ok, parsed(t, "0+0+"))
}

func TestPromise1TwoDigits(t *testing.T) {
	l := lockOf(1, 2)
	n, ok := impl.CountFewest(l, "0", "1")
	same(t, "CountFewest", n, ok, 2)
	codes, ok := impl.NextCodes(l, "0")
	sameList(t, "NextCodes", codes, ok, []string{"1"})
	forth, ok := impl.TurnWheel(l, "0", turnBy(0, 1))
	same(t, "the turn by 1", forth, ok, "1")
	back, ok := impl.TurnWheel(l, "0", turnBy(0, -1))
	same(t, "the turn by -1", back, ok, "1")
	turns, ok := impl.FirstTurns(l, "1", "0")
	sameList(t, "FirstTurns", turns, ok, parsed(t, "0+"))
	over, under, ok := impl.MeanDistance(lockOf(2, 2))
	same(t, "MeanDistance", [2]int{over, under}, ok, [2]int{1, 1})
}

func TestPromise1FirstTurnsGoForthWhereBothDirectionsAreAsShort(t *testing.T) {
	turns, ok := impl.FirstTurns(lockOf(2, 4), "31", "13")
	sameList(t, "FirstTurns", turns, ok, parsed(t, "0+0+1+1+"))
	n, ok := impl.CountFewest(lockOf(2, 4), "31", "13")
	same(t, "CountFewest", n, ok, 24)
}

func TestPromise1NothingToTurn(t *testing.T) {
	l := lockOf(2, 4)
	n, ok := impl.FewestTurns(l, "13", "13")
	same(t, "FewestTurns", n, ok, 0)
	turns, ok := impl.FirstTurns(l, "13", "13")
	sameList(t, "FirstTurns", turns, ok, nil)
	n, ok = impl.CountFewest(l, "13", "13")
	same(t, "CountFewest", n, ok, 1)
	n, ok = impl.CountAtDistance(l, 0)
	same(t, "CountAtDistance", n, ok, 1)
}

func TestPromise1GreatestLock(t *testing.T) {
	l := lockOf(impl.MaxWheels, 10)
	n, ok := impl.CountCodes(l)
	same(t, "CountCodes", n, ok, 1000000)
	n, ok = impl.NumberOfCode(l, "987654")
	same(t, "NumberOfCode", n, ok, 987654)
	code, ok := impl.CodeOfNumber(l, 999999)
	same(t, "CodeOfNumber", code, ok, "999999")
	codes, ok := impl.NextCodes(l, "900000")
	sameList(t, "NextCodes", codes, ok, []string{"000000", "800000", "900001", "900009", "900010", "900090",
		"900100", "900900", "901000", "909000", "910000", "990000"})
	codes, distance, ok := impl.FarthestCodes(l, "012345")
	sameList(t, "FarthestCodes", codes, ok, []string{"567890"})
	same(t, "greatest distance", distance, ok, 30)
	codes, _, ok = impl.FarthestCodes(lockOf(6, 9), "000000")
	if !ok || len(codes) != 64 || codes[0] != "444444" || codes[63] != "555555" || !slices.IsSorted(codes) {
		t.Errorf("FarthestCodes: got %v, %v", codes, ok)
	}
	total := 0
	for distance := range 101 {
		n, ok = impl.CountAtDistance(l, distance)
		if total += n; !ok || distance > 30 && n != 0 {
			t.Errorf("CountAtDistance %d: got %d, %v", distance, n, ok)
		}
	}
	same(t, "all distances", total, true, 1000000)
	over, under, ok := impl.MeanDistance(l)
	same(t, "MeanDistance", [2]int{over, under}, ok, [2]int{15, 1})
}

func TestPromise1WaysUpToTheLimit(t *testing.T) {
	l := lockOf(6, 10)
	for to, want := range map[string]int{
		"444440": 305540235000,    // 20! / 4!^5
		"446436": 541111756185000, // 23! / (4!^5 3!)
		"125555": 997377189000192, // 2^4 23! / (2! 5!^4)
		"555529": 997377189000192,
		"581555": 997377189000192,
	} {
		n, ok := impl.CountFewest(l, "000000", to)
		same(t, "CountFewest "+to, n, ok, want)
	}
	for _, to := range []string{
		"234455", "554432", "537456", // 1038934571875200 each
		"444444", "555555", "055555",
	} {
		n, ok := impl.CountFewest(l, "000000", to)
		fails(t, "CountFewest "+to, n, ok)
	}
	turns, ok := impl.FirstTurns(l, "000000", "555555")
	sameList(t, "FirstTurns", turns, ok, parsed(t, strings.Repeat("0+", 5)+strings.Repeat("1+", 5)+
		strings.Repeat("2+", 5)+strings.Repeat("3+", 5)+strings.Repeat("4+", 5)+strings.Repeat("5+", 5)))
}

func TestPromise1MostTurns(t *testing.T) {
	l := lockOf(2, 7)
	text := strings.Repeat("0+1-", impl.MaxTurns/2)
	turns := parsed(t, text)
	code, ok := impl.TurnWheels(l, "00", turns)
	same(t, "TurnWheels", code, ok, "25")
	backTurns, ok := impl.BackTurns(l, turns)
	sameList(t, "BackTurns", backTurns, ok, parsed(t, strings.Repeat("1+0-", impl.MaxTurns/2)))
	again, ok := impl.TurnsText(turns)
	same(t, "TurnsText", again, ok, text)
}

func TestPromise1TextsOfTurns(t *testing.T) {
	turns, ok := impl.ParseTurns("5-0+")
	sameList(t, "ParseTurns", turns, ok, []impl.Turn{turnBy(5, -1), turnBy(0, 1)})
	text, ok := impl.TurnsText(turns)
	same(t, "TurnsText", text, ok, "5-0+")
	turns, ok = impl.ParseTurns("")
	sameList(t, "ParseTurns of nothing", turns, ok, nil)
	text, ok = impl.TurnsText(nil)
	same(t, "TurnsText of nothing", text, ok, "")
}
