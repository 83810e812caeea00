package tests

import (
	"fmt"
	"slices"
	"strconv"
	"strings"
	"testing"

	"loop.example/g01304/impl"
)

// Promise 10: scripts do what the calls do that they name.

func TestPromise10Example(t *testing.T) {
	s := scriptOf("far 11", "way 11", "first 11", "turn 0-0-", "next", "kill 31", "dead", "turn 0-", "turn 0-", "rank", "nth 7", "dial 10 0 3,8,1", "close 10 1", "lock 1 2", "kill 1", "parts", "set 2", "set 1", "fly")
	replies, ok := impl.RunScript(s)
	sameList(t, "RunScript", replies, ok, []string{"2", "5", "0-0-0-1+0-", "30", "20,31,34,40", "30", "01,10,31", "20", "no", "10", "11", "23,-15,3", "1,4,7,9", "0", "0", "1", "what", "no", "what"})
	d, ok := impl.DeskAfter(s)
	sameDesk(t, "DeskAfter", d, ok, deskOf(lockOf(1, 2), "0", "1"))
	failed, ok := impl.FailedLines(s)
	sameList(t, "FailedLines", failed, ok, []int{9, 17, 18, 19})
}

func TestPromise10Limits(t *testing.T) {
	same(t, "MaxScript", impl.MaxScript, true, mostInScript)
	same(t, "MaxLines", impl.MaxLines, true, mostLines)
}

func TestPromise10FirstDesk(t *testing.T) {
	sameDesk(t, "FirstDesk", impl.FirstDesk(), true, deskOf(lockOf(2, 5), "00", "01", "10"))
	same(t, "IsDesk", impl.IsDesk(impl.FirstDesk()), true, true)
}

func TestPromise10WhichDesks(t *testing.T) {
	for _, l := range locksUpTo(mostSearched) {
		codes := codesOf(l)
		last := codes[len(codes)-1]
		most := min(mostDeadKept, len(codes)-1)
		for _, d := range []impl.Desk{
			deskOf(l, codes[0]), deskOf(l, last), deskOf(l, codes[0], last), deskOf(l, last, codes[0]), deskOf(l, last, codes[:most]...), deskOf(l, codes[0], codes[len(codes)-most:]...),
		} {
			same(t, "IsDesk "+textOfDesk(d), impl.IsDesk(d), true, true)
		}
		for _, code := range codes {
			d := deskOf(l, code, codes[:min(5, len(codes))]...)
			same(t, "IsDesk "+textOfDesk(d), impl.IsDesk(d), true, !slices.Contains(d.Dead, code))
		}
	}
}

func TestPromise10LinesOfTheFirstDesk(t *testing.T) {
	sameTale(t, impl.FirstDesk(), []tellTale{
		{"show", "00", ""}, {"dead", "01,10", ""},
		{"far 00", "0", ""}, {"far 01", "1", ""}, {"far 11", "2", ""}, {"far 23", "4", ""}, {"far 40", "1", ""},
		{"way 00", "0", ""}, {"way 04", "1", ""}, {"way 11", "5", ""}, {"way 01", "no", ""}, {"way 10", "no", ""},
		{"first 00", "-", ""}, {"first 04", "1-", ""}, {"first 40", "0-", ""}, {"first 11", "0-0-0-1+0-", ""}, {"first 01", "no", ""},
		{"reach", "23", ""}, {"parts", "1", ""}, {"next", "04,40", ""}, {"rank", "0", ""}, {"round", "0", ""},
		{"nth 0", "00", ""}, {"nth 1", "01", ""}, {"nth 5", "14", ""}, {"nth 7", "11", ""}, {"nth 24", "40", ""}, {"nth 25", "no", ""}, {"nth 999999", "no", ""},
		{"set 11", "11", "2x5 11 01,10"}, {"set 01", "no", ""}, {"set 11", "11", ""}, {"show", "11", ""}, {"next", "12,21", ""}, {"rank", "8", ""}, {"round", "7", ""},
		{"go 00", "00", "2x5 00 01,10"}, {"go 00", "00", ""}, {"go 01", "no", ""}, {"go 44", "44", "2x5 44 01,10"}, {"rank", "24", ""}, {"round", "23", ""}, {"go 00", "00", "2x5 00 01,10"},
		{"turn ", "00", ""}, {"turn 0-", "40", "2x5 40 01,10"}, {"turn 0+", "00", "2x5 00 01,10"}, {"turn 0+", "no", ""}, {"turn 1+", "no", ""}, {"turn 0+0-", "no", ""},
		{"turn 1-1-1-", "02", "2x5 02 01,10"}, {"turn 1-", "no", ""}, {"turn 0+1-", "11", "2x5 11 01,10"}, {"turn 0-", "no", ""}, {"turn 2+", "no", ""}, {"turn 5-", "no", ""}, {"turn 0+5-", "no", ""},
		{"kill 01", "no", ""}, {"kill 11", "no", ""}, {"kill 44", "11", "2x5 11 01,10,44"}, {"kill 00", "11", "2x5 11 00,01,10,44"}, {"kill 02", "11", "2x5 11 00,01,02,10,44"}, {"kill 02", "no", ""},
		{"dead", "00,01,02,10,44", ""}, {"free 11", "no", ""}, {"free 03", "no", ""}, {"free 10", "11", "2x5 11 00,01,02,44"}, {"free 10", "no", ""},
		{"turn 1-", "10", "2x5 10 00,01,02,44"}, {"free 44", "10", "2x5 10 00,01,02"}, {"free 00", "10", "2x5 10 01,02"}, {"free 02", "10", "2x5 10 01"}, {"free 01", "10", "2x5 10 -"}, {"dead", "-", ""}, {"free 01", "no", ""},
		{"reach", "25", ""}, {"kill 00", "10", "2x5 10 00"}, {"lock 2 5", "00", "2x5 00 -"}, {"kill 43", "00", "2x5 00 43"}, {"lock 2 6", "00", "2x6 00 -"}, {"set 55", "55", "2x6 55 -"}, {"first 00", "0+1+", ""},
	})
}

func TestPromise10CodesThatAreCutOff(t *testing.T) {
	sameTale(t, impl.FirstDesk(), []tellTale{
		{"kill 04", "00", "2x5 00 01,04,10"}, {"parts", "1", ""}, {"next", "40", ""}, {"first 11", "0-0-0-1+0-", ""}, {"kill 40", "00", "2x5 00 01,04,10,40"},
		{"parts", "2", ""}, {"reach", "1", ""}, {"next", "-", ""}, {"way 00", "0", ""}, {"first 00", "-", ""}, {"go 00", "00", ""}, {"turn ", "00", ""},
		{"way 22", "no", ""}, {"first 22", "no", ""}, {"go 22", "no", ""}, {"far 22", "4", ""}, {"far 40", "1", ""}, {"turn 0-", "no", ""},
		{"set 22", "22", "2x5 22 01,04,10,40"}, {"reach", "20", ""}, {"next", "12,21,23,32", ""}, {"way 00", "no", ""}, {"go 00", "no", ""}, {"way 11", "2", ""}, {"first 11", "0-1-", ""},
		{"kill 00", "22", "2x5 22 00,01,04,10,40"}, {"parts", "1", ""}, {"reach", "20", ""}, {"way 00", "no", ""}, {"free 00", "22", "2x5 22 01,04,10,40"}, {"parts", "2", ""},
		{"free 40", "22", "2x5 22 01,04,10"}, {"way 00", "5", ""}, {"go 00", "00", "2x5 00 01,04,10"},
	})
}

func TestPromise10OneWheel(t *testing.T) {
	sameTale(t, impl.FirstDesk(), []tellTale{
		{"lock 1 2", "0", "1x2 0 -"}, {"show", "0", ""}, {"dead", "-", ""}, {"next", "1", ""}, {"first 1", "0+", ""}, {"way 1", "1", ""}, {"far 1", "1", ""}, {"reach", "2", ""}, {"parts", "1", ""},
		{"turn 0-", "1", "1x2 1 -"}, {"turn 0-", "0", "1x2 0 -"}, {"turn 0+", "1", "1x2 1 -"}, {"turn 0+0-", "1", ""}, {"rank", "1", ""}, {"round", "1", ""}, {"nth 0", "0", ""}, {"nth 1", "1", ""}, {"nth 2", "no", ""},
		{"kill 0", "1", "1x2 1 0"}, {"next", "-", ""}, {"reach", "1", ""}, {"parts", "1", ""}, {"turn 0+", "no", ""}, {"kill 1", "no", ""}, {"set 0", "no", ""}, {"set 2", "what", ""}, {"set 00", "what", ""}, {"turn 1+", "no", ""},
		{"lock 1 10", "0", "1x10 0 -"}, {"next", "1,9", ""}, {"kill 1", "0", "1x10 0 1"}, {"first 5", "0-0-0-0-0-", ""}, {"way 2", "8", ""}, {"far 2", "2", ""}, {"kill 9", "0", "1x10 0 1,9"}, {"way 2", "no", ""}, {"reach", "1", ""}, {"parts", "2", ""}, {"set 7", "7", "1x10 7 1,9"},
		{"rank", "7", ""}, {"round", "7", ""}, {"first 2", "0-0-0-0-0-", ""}, {"go 0", "no", ""}, {"reach", "7", ""}, {"nth 9", "9", ""}, {"nth 10", "no", ""},
	})
}

// On wheels of two digits both turns lead to the same code, which the first way tells by 1.
func TestPromise10WheelsOfTwoDigits(t *testing.T) {
	sameTale(t, impl.FirstDesk(), []tellTale{
		{"lock 2 2", "00", "2x2 00 -"}, {"next", "01,10", ""}, {"first 11", "0+1+", ""}, {"turn 0-1-", "11", "2x2 11 -"}, {"rank", "2", ""}, {"round", "2", ""}, {"nth 2", "11", ""}, {"nth 3", "10", ""}, {"first 00", "0+1+", ""},
		{"kill 01", "11", "2x2 11 01"}, {"first 00", "1+0+", ""}, {"kill 10", "11", "2x2 11 01,10"}, {"way 00", "no", ""}, {"parts", "2", ""}, {"kill 00", "11", "2x2 11 00,01,10"}, {"parts", "1", ""}, {"kill 11", "no", ""},
		{"lock 6 2", "000000", "6x2 000000 -"}, {"next", "000001,000010,000100,001000,010000,100000", ""}, {"first 111111", "0+1+2+3+4+5+", ""}, {"turn 5-3+", "000101", "6x2 000101 -"}, {"rank", "6", ""}, {"round", "6", ""}, {"reach", "64", ""},
	})
}

func TestPromise10Locks(t *testing.T) {
	c := newClerk()
	for _, d := range []impl.Desk{impl.FirstDesk(), deskOf(lockOf(1, 2), "1", "0"), deskOf(lockOf(3, 10), "999", "000", "123")} {
		for n := range 9 {
			for k := range 13 {
				behind := c.sameLine(t, d, fmt.Sprint("lock ", n, " ", k))
				fits := n >= 1 && n <= 6 && k >= 2 && k <= 10 && codesCounted(lockOf(n, k)) <= mostSearched
				same(t, fmt.Sprint("a new lock ", n, k), equalDesks(behind, deskOf(lockOf(n, k), strings.Repeat("0", n))), true, fits)
			}
		}
	}
	sameTale(t, impl.FirstDesk(), []tellTale{
		{"lock 0 5", "no", ""}, {"lock 7 2", "no", ""}, {"lock 1 1", "no", ""}, {"lock 1 0", "no", ""}, {"lock 1 11", "no", ""}, {"lock 0 0", "no", ""}, {"lock 999999 999999", "no", ""}, {"lock 2 999999", "no", ""}, {"lock 999999 2", "no", ""},
		{"lock 4 6", "no", ""}, {"lock 6 10", "no", ""}, {"lock 6 4", "no", ""}, {"lock 3 10", "000", "3x10 000 -"}, {"set 999", "999", "3x10 999 -"}, {"rank", "909", ""}, {"round", "987", ""}, {"reach", "1000", ""}, {"nth 999", "900", ""}, {"nth 1000", "no", ""},
		{"lock 4 5", "0000", "4x5 0000 -"}, {"lock 6 3", "000000", "6x3 000000 -"}, {"lock 1 2", "0", "1x2 0 -"}, {"lock 2 5", "00", "2x5 00 -"},
	})
}

func TestPromise10Dials(t *testing.T) {
	sameTale(t, impl.FirstDesk(), []tellTale{
		{"dial 10 0 3,8,1", "23,-15,3", ""}, {"dial 10 0 3", "3", ""}, {"dial 10 0 8,1", "18,-7", ""}, {"dial 10 0 0", "10", ""}, {"dial 10 3 3", "10", ""}, {"dial 10 3 3,3", "20,-10", ""}, {"dial 2 0 0,0", "4,-2", ""}, {"dial 2 1 0", "1", ""},
		{"dial 100 0 99", "99", ""}, {"dial 100 99 99", "100", ""}, {"dial 100 99 0", "1", ""}, {"dial 100 0 1,0,1,0,1,0,1,0,1,0", "901,-801,701,-601,501,-401,301,-201,101,-1", ""},
		{"dial 100 0 0,0,0,0,0,0,0,0,0,0", "1000,-900,800,-700,600,-500,400,-300,200,-100", ""}, {"dial 100 99 0,0,0,0,0,0,0,0,0,0,0", "no", ""}, {"dial 100 0 0,0,0,0,0,0,0,0,0,0,0", "no", ""},
		{"dial 2 0 1,0,1,0,1,0,1,0,1,0,1,0", "23,-21,19,-17,15,-13,11,-9,7,-5,3,-1", ""}, {"dial 2 0 1,0,1,0,1,0,1,0,1,0,1,0,1", "no", ""},
		{"dial 1 0 0", "no", ""}, {"dial 0 0 0", "no", ""}, {"dial 101 0 0", "no", ""}, {"dial 999999 0 0", "no", ""}, {"dial 10 10 0", "no", ""}, {"dial 10 999999 0", "no", ""}, {"dial 10 0 10", "no", ""}, {"dial 10 0 0,10", "no", ""}, {"dial 10 0 999999", "no", ""}, {"dial 10 0 3,999999,1", "no", ""},
		{"close 10 1", "1,4,7,9", ""}, {"close 10 0", "0,1,2,3,4,5,6,7,8,9", ""}, {"close 2 0", "0,1", ""}, {"close 2 1", "1", ""}, {"close 2 100", "1", ""}, {"close 100 49", "49,99", ""}, {"close 100 50", "50", ""}, {"close 3 1", "1", ""},
		{"close 1 0", "no", ""}, {"close 0 0", "no", ""}, {"close 101 1", "no", ""}, {"close 10 101", "no", ""}, {"close 999999 999999", "no", ""}, {"close 10 999999", "no", ""},
	})
}

func TestPromise10DialsAndTriesOfAllMarks(t *testing.T) {
	d, desk := &drawn{last: 10}, impl.FirstDesk()
	for marks := range 103 {
		for _, slack := range []int{0, 1, 2, 7, marks / 2, marks, 99, 100, 101} {
			behind, reply, ok := impl.DeskLine(desk, fmt.Sprint("close ", marks, " ", slack))
			sameDesk(t, "the desk", behind, ok, desk)
			want := "no"
			if marks >= 2 && marks <= 100 && slack <= 100 {
				want = listed(triesIn(marks, slack))
			}
			same(t, fmt.Sprint("close ", marks, slack), reply, ok, want)
		}
		for count := 1; count <= 4 && marks >= 2 && marks <= 100; count++ {
			start, numbers := d.below(marks), d.numbers(marks, count)
			_, reply, ok := impl.DeskLine(desk, fmt.Sprint("dial ", marks, " ", start, " ", listed(numbers)))
			same(t, fmt.Sprint("dial ", marks, start, numbers), reply, ok, listed(openingIn(marks, start, numbers)))
		}
	}
}

// Each lock has a desk for each of some codes, and each line with a code is tried with all codes.
func TestPromise10LinesWithAllCodes(t *testing.T) {
	c, d := newClerk(), &drawn{last: 11}
	for _, of := range deadCases([]impl.Lock{lockOf(1, 2), lockOf(1, 10), lockOf(2, 2), lockOf(2, 5), lockOf(3, 3), lockOf(6, 2)}) {
		live := liveOf(of.lock, of.dead)
		if len(live) == 0 {
			continue
		}
		desk := deskOf(of.lock, d.codeOf(live), of.dead...)
		for _, line := range []string{"show", "dead", "reach", "parts", "next", "rank", "round"} {
			c.sameLine(t, desk, line)
		}
		for _, code := range codesOf(of.lock) {
			for _, name := range []string{"set ", "kill ", "free ", "go ", "far ", "way ", "first "} {
				c.sameLine(t, desk, name+code)
			}
		}
	}
}

func TestPromise10RanksOfAllCodes(t *testing.T) {
	for _, l := range locksUpTo(mostSearched) {
		forth, round := forthOrder(l), roundOrder(l)
		for n, code := range round {
			if len(round) > 100 && n%17 > 0 {
				continue
			}
			desk := deskOf(l, code)
			for line, want := range map[string]string{"rank": strconv.Itoa(slices.Index(forth, code)), "round": strconv.Itoa(n), fmt.Sprint("nth ", n): code} {
				_, reply, ok := impl.DeskLine(desk, line)
				same(t, textOfDesk(desk)+" "+line, reply, ok, want)
			}
		}
		_, reply, ok := impl.DeskLine(deskOf(l, round[0]), fmt.Sprint("nth ", len(round)))
		same(t, fmt.Sprint("no code behind all ", l), reply, ok, "no")
	}
}

// The turns of the first way are those that lead there, and as many as told.
func TestPromise10TurnsOfWaysLeadThere(t *testing.T) {
	d := &drawn{last: 12}
	for _, of := range deadCases([]impl.Lock{lockOf(1, 9), lockOf(2, 2), lockOf(2, 5), lockOf(2, 10), lockOf(3, 4), lockOf(6, 2)}) {
		live := liveOf(of.lock, of.dead)
		for range min(12, len(live)*len(live)) {
			desk, to := deskOf(of.lock, d.codeOf(live), of.dead...), d.codeOf(live)
			what := textOfDesk(desk) + " " + to
			_, turns, ok := impl.DeskLine(desk, "first "+to)
			_, far, _ := impl.DeskLine(desk, "way "+to)
			gone, reply, _ := impl.DeskLine(desk, "go "+to)
			if turns == "no" {
				same(t, "way and go "+what, far+" "+reply, ok, "no no")
				sameDesk(t, "the desk "+what, gone, true, desk)
				continue
			}
			word := turns
			if turns == "-" {
				word = ""
			}
			turned, told, ok := impl.DeskLine(desk, "turn "+word)
			same(t, "turn "+what, told, ok, to)
			same(t, "go "+what, reply, ok, to)
			sameDesk(t, "the desks "+what, turned, ok, gone)
			same(t, "as many turns "+what, far, ok, strconv.Itoa(len(word)/2))
		}
	}
}

func TestPromise10MostTurns(t *testing.T) {
	c := newClerk()
	for _, many := range []struct {
		turns string
		reply string
	}{
		{strings.Repeat("0-0+", 100), "00"}, {strings.Repeat("1-1+", 99) + "1-0+", "14"}, {strings.Repeat("0-0+", 99) + "0-1-", "44"},
		{strings.Repeat("0-", 200), "no"}, {strings.Repeat("0-1-", 100), "no"}, {strings.Repeat("0-0+", 99) + "0-2-", "no"}, {strings.Repeat("0-0+", 99) + "1-1-", "03"},
		{strings.Repeat("0-", 201), "what"}, {strings.Repeat("0-0+", 100) + "0-", "what"}, {strings.Repeat("0-0+", 700), "what"}, {strings.Repeat("0-0+", 99) + "0-6-", "what"},
	} {
		_, reply, ok := impl.DeskLine(impl.FirstDesk(), "turn "+many.turns)
		same(t, "many turns "+many.turns[380:], reply, ok, many.reply)
		c.sameLine(t, impl.FirstDesk(), "turn "+many.turns)
	}
}

func TestPromise10MostDeadCodes(t *testing.T) {
	l := lockOf(3, 10)
	codes := codesOf(l)
	desk := deskOf(l, "000")
	for n := 1; n <= mostDeadKept; n++ {
		behind, reply, ok := impl.DeskLine(desk, "kill "+codes[1000-n])
		same(t, fmt.Sprint("kill ", n), reply, ok, "000")
		desk = behind
	}
	sameDesk(t, "all of them", desk, true, deskOf(l, "000", codes[1000-mostDeadKept:]...))
	sameTale(t, desk, []tellTale{{"kill 939", "no", ""}, {"kill 001", "no", ""}, {"kill 940", "no", ""}, {"reach", "940", ""}})
	desk, reply, ok := impl.DeskLine(desk, "free 970")
	same(t, "free", reply, ok, "000")
	desk, reply, ok = impl.DeskLine(desk, "kill 001")
	same(t, "kill", reply, ok, "000")
	same(t, "as many as before", len(desk.Dead), ok, mostDeadKept)
	sameTale(t, desk, []tellTale{{"kill 970", "no", ""}, {"free 970", "no", ""}})
	_, reply, ok = impl.DeskLine(desk, "dead")
	same(t, "dead", reply, ok, strings.Join(desk.Dead, ","))
}

// A line that is no row of the table, or none of whose words may be so, is answered with what, whatever else is wrong with it.
func TestPromise10LinesThatAreWhat(t *testing.T) {
	c, desk := newClerk(), impl.FirstDesk()
	lines := []string{
		"", " ", "  ", "fly", "what", "no", "-", "0", "00", "Show", "SHOW", "sho", "shows", "showshow", " show", "show ", "show  ", "show 00", "show show", "show\t", "\tshow", "show\r", "show\x00", "\x00", "\xff", "é", "show\u00a0",
		"dead ", "dead 01", "reach 00", "reach ", "parts 1", "next 00", "rank 00", "rank ", "round 0", "round ", "lock", "lock ", "lock 2", "lock 2 ", "lock  2 5", "lock 2  5", "lock 2 5 ", "lock 2 5 0", "lock 2x5", "lock 2,5", "lock\t2 5", "lock 2\t5",
		"set", "set ", "set  00", "set 00 ", "set 00 00", "set 0", "set 000", "set 05", "set 50", "set 0a", "set -1", "set 00\r", "set ٠٠", "set 0,0", "set C", "set 99",
		"kill", "kill ", "kill 05", "kill 0", "kill 00 01", "kill 01,10", "free", "free ", "free 05", "free 1", "free 01 10", "free 01,10", "go", "go ", "go 05", "go 0", "go 00 11", "far", "far ", "far 05", "far 0", "far 00 11", "way", "way ", "way 05", "way 0", "way 00 11", "first", "first ", "first 05", "first 0", "first 00 11",
		"turn", "turn  ", "turn -", "turn +", "turn 0", "turn 00", "turn 0*", "turn 6+", "turn 9-", "turn a+", "turn -0", "turn 0-0", "turn 0-,0-", "turn 0- 0-", "turn  0-", "turn 0- ", "turn 0−",
		"nth", "nth ", "nth 00", "nth 01", "nth 007", "nth +1", "nth -1", "nth -0", "nth 1000000", "nth 999999999999999999999999", "nth 18446744073709551616", "nth 9223372036854775808", "nth 1.0", "nth 1e3", "nth 0x1", "nth 1_0", "nth 1,2", "nth a", "nth 1 2", "nth  1", "nth 1 ", "nth ٧",
		"dial", "dial 10", "dial 10 0", "dial 10 0 ", "dial 10 0 3 8", "dial 10 0 3,", "dial 10 0 ,3", "dial 10 0 ,", "dial 10 0 3,,8", "dial 10 0 3;8", "dial 10 0 03", "dial 10 0 3,08", "dial 10 0 -3", "dial 10 0 3,-8", "dial 10 0 +3", "dial 10 0 3, 8", "dial 10 0 1000000", "dial 10 0 3,1000000", "dial 10 0 -", "dial 010 0 3", "dial 10 00 3", "dial +10 0 3", "dial 10 -0 3", "dial 1000000 0 3", "dial 10 1000000 3", "dial  10 0 3", "dial 10  0 3", "dial 10 0  3", "dial 3,8,1 10 0",
		"close", "close 10", "close 10 ", "close 10 1 ", "close 10 1 1", "close 010 1", "close 10 01", "close -1 1", "close 10 -1", "close 1000000 1", "close 10 1000000", "close 10,1",
		"dial 1 0 01", "dial 1 0 3,", "lock 0 00", "lock 00 0", "close 1 00", "set 10 ", "kill 00 ", "free 02 ", "go 10 ", "first 01 ", "nth 25 ", "turn 0+ ", "lock 9 9 ", "C", "T", "N", "lock N K", "set C ", "dial N K L",
	}
	for _, line := range lines {
		_, reply, ok := impl.DeskLine(desk, line)
		same(t, fmt.Sprintf("the reply to %q", line), reply, ok, "what")
		c.sameLine(t, desk, line)
	}
}

// Functions that fail, and all else that is told and is not so.
func TestPromise10LinesThatAreNo(t *testing.T) {
	c := newClerk()
	desk := deskOf(lockOf(2, 5), "00", "01", "04", "10", "40")
	for _, line := range []string{
		"lock 0 2", "lock 7 2", "lock 1 1", "lock 1 11", "lock 4 6", "lock 6 10", "set 01", "set 40", "kill 00", "kill 01", "kill 40", "free 00", "free 02", "free 44", "turn 0+", "turn 0-", "turn 1+", "turn 1-", "turn 2+", "turn 5+", "turn 0+0-",
		"go 01", "go 02", "go 44", "way 01", "way 02", "way 44", "first 10", "first 02", "first 44", "nth 25", "nth 26", "nth 100", "nth 999999", "dial 1 0 0", "dial 101 0 0", "dial 10 10 3", "dial 10 0 10", "dial 10 0 3,8,10", "dial 2 0 0,0,0,0,0,0,0,0,0,0,0,0,0", "close 1 1", "close 101 1", "close 10 101",
	} {
		_, reply, ok := impl.DeskLine(desk, line)
		same(t, fmt.Sprintf("the reply to %q", line), reply, ok, "no")
		c.sameLine(t, desk, line)
	}
}

// What is a code of one lock is none of another one.
func TestPromise10CodesOfOtherLocks(t *testing.T) {
	c := newClerk()
	for _, l := range locksUpTo(mostSearched) {
		desk := deskOf(l, strings.Repeat("0", l.Wheels))
		for _, other := range allLocks() {
			code := strings.Repeat(strconv.Itoa(other.Digits-1), other.Wheels)
			for _, name := range []string{"set ", "kill ", "free ", "go ", "far ", "way ", "first "} {
				if l.Wheels == other.Wheels && l.Digits >= other.Digits && codesCounted(l) > 200 {
					continue
				}
				c.sameLine(t, desk, name+code)
			}
		}
	}
}

func TestPromise10DrawnLines(t *testing.T) {
	c, d := newClerk(), &drawn{last: 13}
	for _, of := range deadCases([]impl.Lock{lockOf(1, 2), lockOf(1, 7), lockOf(2, 2), lockOf(2, 5), lockOf(3, 2), lockOf(3, 4), lockOf(5, 2)}) {
		live := liveOf(of.lock, of.dead)
		if len(live) == 0 {
			continue
		}
		desk := deskOf(of.lock, d.codeOf(live), of.dead...)
		for range 60 {
			desk = c.sameLine(t, desk, d.line(c, desk.Lock))
		}
	}
}

func TestPromise10DrawnScripts(t *testing.T) {
	c, d := newClerk(), &drawn{last: 14}
	replies := map[string]int{}
	for range 400 {
		var lines []string
		desk := impl.FirstDesk()
		for range d.below(mostLines + 1) {
			lines = append(lines, d.line(c, desk.Lock))
			behind, reply := c.told(desk, lines[len(lines)-1])
			desk = behind
			replies[reply]++
		}
		sameDesk(t, "the last desk", c.sameScript(t, lines...), true, desk)
	}
	same(t, "many kinds of replies", replies["no"] > 200 && replies["what"] > 200 && replies["-"] > 10 && len(replies) > 250, true, true)
}

// A script does the same as its lines one by one, and the same as far as it goes.
func TestPromise10LineByLine(t *testing.T) {
	lines := []string{"turn 1-", "kill 00", "", "next", "first 33", "nth 9", "free 00", "free 00", "go 11", "lock 2 3", "set 12", "fly", "kill 11", "way 10", "rank", "lock 9 9", "dial 5 1 1,1", "lock 3 2", "turn 0+2-", "dead"}
	replies, ok := impl.RunScript(scriptOf(lines...))
	sameList(t, "RunScript", replies, ok, []string{"04", "04", "what", "03,14,44", "0-0-1-", "13", "04", "no", "11", "00", "12", "what", "12", "1", "3", "no", "10,-5", "000", "101", "-"})
	failed, ok := impl.FailedLines(scriptOf(lines...))
	sameList(t, "FailedLines", failed, ok, []int{3, 8, 12, 16})
	desk := impl.FirstDesk()
	for count := range len(lines) + 1 {
		s := scriptOf(lines[:count]...)
		behind, ok := impl.DeskAfter(s)
		sameDesk(t, fmt.Sprint("DeskAfter ", count), behind, ok, desk)
		some, ok := impl.RunScript(s)
		sameList(t, fmt.Sprint("RunScript ", count), some, ok, replies[:count])
		numbers, ok := impl.FailedLines(s)
		sameList(t, fmt.Sprint("FailedLines ", count), numbers, ok, slices.DeleteFunc(slices.Clone(failed), func(n int) bool { return n > count }))
		if count == len(lines) {
			break
		}
		next, reply, ok := impl.DeskLine(desk, lines[count])
		same(t, fmt.Sprint("the reply ", count), reply, ok, replies[count])
		desk = next
	}
}

func TestPromise10EmptyScript(t *testing.T) {
	replies, ok := impl.RunScript("")
	sameList(t, "RunScript", replies, ok, nil)
	desk, ok := impl.DeskAfter("")
	sameDesk(t, "DeskAfter", desk, ok, impl.FirstDesk())
	failed, ok := impl.FailedLines("")
	sameList(t, "FailedLines", failed, ok, nil)
}

func TestPromise10EmptyLines(t *testing.T) {
	for count := 1; count <= mostLines; count++ {
		s := strings.Repeat("\n", count)
		replies, ok := impl.RunScript(s)
		sameList(t, "RunScript", replies, ok, slices.Repeat([]string{"what"}, count))
		failed, ok := impl.FailedLines(s)
		sameList(t, "FailedLines", failed, ok, numbersUpTo(count + 1)[1:])
		desk, ok := impl.DeskAfter(s)
		sameDesk(t, "DeskAfter", desk, ok, impl.FirstDesk())
	}
	replies, ok := impl.RunScript("\nshow\n\n\ndead\n")
	sameList(t, "lines between empty ones", replies, ok, []string{"what", "00", "what", "what", "01,10"})
	failed, ok := impl.FailedLines("\nshow\n\n\ndead\n")
	sameList(t, "lines between empty ones", failed, ok, []int{1, 3, 4})
	replies, ok = impl.RunScript("turn \n \nturn\n")
	sameList(t, "lines of a blank", replies, ok, []string{"00", "what", "what"})
}

// A line ends with its newline alone: all other bytes are those of its words.
func TestPromise10ScriptsOfOtherBytes(t *testing.T) {
	c := newClerk()
	c.sameScript(t, "show\r", "\r", "turn \r", "turn \x00", "show\x00", "\xff", "show ", " show", "\tshow", "show\v", "show\f", "show\u2028", "set 11\r", "set 11", "show")
	for letter := range 256 {
		if letter == '\n' {
			continue
		}
		other := string([]byte{byte(letter)})
		replies, ok := impl.RunScript(scriptOf("show"+other, other+"show", other, "nth 7"+other, "turn 1-"+other, "show"))
		want := []string{"what", "what", "what", "what", "what", "00"}
		if letter >= '0' && letter <= '9' {
			want[3] = "no"
		}
		sameList(t, fmt.Sprintf("RunScript with %q", other), replies, ok, want)
	}
}

func TestPromise10MostLines(t *testing.T) {
	c := newClerk()
	c.sameScript(t, slices.Repeat([]string{"turn 0-"}, mostLines)...)
	c.sameScript(t, slices.Repeat([]string{"turn 0-", "kill 40", "fly", "turn 1-", "free 40"}, mostLines/5)...)
	failsScript(t, "one line too many", scriptOf(slices.Repeat([]string{"turn 0-"}, mostLines+1)...))
	failsScript(t, "one empty line too many", strings.Repeat("\n", mostLines+1))
	failsScript(t, "far too many lines", strings.Repeat("\n", mostInScript))
}

func TestPromise10MostBytes(t *testing.T) {
	c := newClerk()
	turns := "turn " + strings.Repeat("0-", 27)
	full := slices.Repeat([]string{turns}, mostLines)
	same(t, "as many bytes as there may be", len(scriptOf(full...)), true, mostInScript)
	desk := c.sameScript(t, full...)
	same(t, "all turns are made", desk.Code, true, "00")
	for _, start := range []string{"fly", "show ", "turn ", "dial 10 0 3", "set 11"} {
		long := start + strings.Repeat("0", mostInScript-1-len(start))
		c.sameScript(t, long)
		failsScript(t, "one byte too many", scriptOf(long+"0"))
		failsScript(t, "one line too long", scriptOf("show", long))
		failsScript(t, "an empty line too many", scriptOf(long, ""))
		c.sameLine(t, impl.FirstDesk(), long)
		c.sameLine(t, impl.FirstDesk(), long+"0")
	}
	list := "dial 10 0 " + strings.Repeat("3,", (mostInScript-10)/2-1) + "10"
	same(t, "a line of as many bytes as there may be", len(list), true, mostInScript)
	_, reply, ok := impl.DeskLine(impl.FirstDesk(), list)
	same(t, "a list of too many numbers", reply, ok, "no")
	_, reply, ok = impl.DeskLine(impl.FirstDesk(), list[:mostInScript-2]+"3,")
	same(t, "a list that goes on", reply, ok, "what")
}

// Numbers at the beginning and at the end of those that a word may be, and beside them.
func TestPromise10NumbersOfWords(t *testing.T) {
	c, desk := newClerk(), impl.FirstDesk()
	numbers := []string{
		"0", "1", "9", "10", "99", "100", "101", "999", "1000", "9999", "10000", "99999", "100000", "999998", "999999", "1000000", "1000001", "9999999", "10000000", "4294967296", "4294967306", "9223372036854775807", "9223372036854775808", "18446744073709551616", "18446744073709551626",
		"", "00", "01", "010", "0000010", "-0", "-1", "-10", "+0", "+1", "+10", "1 ", " 1", "1.", ".1", "1a", "a1", "x", "0x1", "0b1", "0o1", "1e1", "1_0", "１", "٣", "½", "\x001", "1\x00", "1\xff",
	}
	for _, number := range numbers {
		for _, line := range []string{"nth #", "lock # 2", "lock 2 #", "close # 1", "close 10 #", "dial # 0 1", "dial 10 # 1", "dial 10 0 #", "dial 10 0 #,1", "dial 10 0 1,#", "dial 10 0 1,#,1", "dial # # #,#", "close # #", "lock # #"} {
			line = strings.ReplaceAll(line, "#", number)
			c.sameLine(t, desk, line)
			if n, err := strconv.Atoi(number); err == nil && n <= mostInWord && n >= 0 && strconv.Itoa(n) == number {
				continue
			}
			_, reply, ok := impl.DeskLine(desk, line)
			same(t, fmt.Sprintf("the reply to %q", line), reply, ok, "what")
		}
	}
}
