package bench_test

import (
	"math/rand"
	"slices"
	"strconv"
	"strings"
	"testing"

	"tributary/bench"
)

// three tells the lines of a root, a gateway under it, and a laptop under that.
const three = "new 1000\nenrol gateway 1\nenrol laptop 2\n"

// answers fails, if lines behind some others are not answered by these, one a line.
func answers(t *testing.T, ahead string, lines ...string) {
	t.Helper()
	var text, want []string
	for _, x := range lines {
		line, answer, _ := strings.Cut(x, " => ")
		text, want = append(text, line), append(want, answer)
	}
	out := bench.Run(ahead + strings.Join(text, "\n"))
	got := strings.Split(strings.TrimSuffix(out, "\n"), "\n")
	got = got[len(got)-len(want):]
	for i := range want {
		if got[i] != want[i] {
			t.Errorf("%d: %s: %s, not %s", i, text[i], got[i], want[i])
		}
	}
}

// P32.1: a text's lines.
func TestLines(t *testing.T) {
	for text, want := range map[string][]string{"": nil, "\n": {""}, "a": {"a"}, "a\n": {"a"}, "a\nb": {"a", "b"}, "\n\na\n\n": {"", "", "a", ""}, " \n": {" "}, "a\r\nb\tc": {"a\r", "b\tc"}, "\xff\n\x00": {"\xff", "\x00"}} {
		if got := bench.Lines(text); !slices.Equal(got, want) {
			t.Errorf("%q: %q", text, got)
		}
	}
}

// P32.1: a line's words.
func TestWords(t *testing.T) {
	for line, want := range map[string][]string{"": nil, "   ": nil, "a": {"a"}, " a  bc ": {"a", "bc"}, "a\tb c\r": {"a\tb", "c\r"}, "\xff \x00": {"\xff", "\x00"}, "a\u00a0b": {"a\u00a0b"}} {
		if got := bench.Words(line); !slices.Equal(got, want) {
			t.Errorf("%q: %q", line, got)
		}
	}
}

// P32.1: numbers.
func TestNumber(t *testing.T) {
	for s, want := range map[string]int{"0": 0, "7": 7, "10": 10, "2147483647": 2147483647, "1000000000": 1000000000} {
		if n, ok := bench.Number(s); n != want || !ok {
			t.Error(s, n, ok)
		}
	}
	for _, s := range []string{"", "00", "01", "-1", "-0", "+1", " 1", "1 ", "2147483648", "9999999999", "10000000000", "02147483647", "99999999999999999999999", "18446744073709551616", "18446744073709551617", "1a", "a", "0x1", "1.0", "1\n", "\xff", "١"} {
		if n, ok := bench.Number(s); n != 0 || ok {
			t.Error(s, n, ok)
		}
	}
}

// P32.2, P32.3: the chapter's examples.
func TestExamples(t *testing.T) {
	answers(t, "", "new 1000 => ok", "enrol gateway 1 => ok", "enrol laptop 2 => ok", "members => r1 g2<1 l3<2")
	answers(t, three, "write 3 f 7 => ok", "scan 3 => ok", "scan 3 => error 6", "store 3 => 3.1@f=7", "tree 3 => f=7", "store 9 => ok",
		"out 3 2 => ok", "air => 3>2", "deliver 0 => ok", "kill 2 => ok", "members => r1 g2<1x l3<2", "tree 1 => ok")
	answers(t, "", "members => error 9", "new 50 => error 2", "new 1000 => ok", "enrol root 1 => error 2", "resolve g d => ok", "reports => ok", "store 1 => 1.1@g=d")
	if got := bench.Run(three + "move 3 1\nmembers"); got != "ok\nok\nok\nok\nr1 g2<1 l3<1\n" {
		t.Error(got)
	}
	answers(t, three, "scan 2 => error 9", "out 3 2 => ok", "deliver 0 => ok", "deliver 0 => error 6", "kill 2 => ok", "move 3 1 => ok", "members => r1 g2<1x l3<1")
}

// P32.2: what is no line, and the order of its errors.
func TestErrors(t *testing.T) {
	noFleet := []string{"members => error 9", "what => error 9", "kill => error 9", "new => error 2", "new 1 2 => error 2", "new x => error 2", "new 99 => error 2", "air 5 => error 9", "new 60001 => error 2", "New 1000 => error 9"}
	answers(t, "", noFleet...)
	answers(t, three, "what => error 2", "members 1 => error 2", "Members => error 2", "kill => error 2", "kill 1 2 => error 2", "kill x => error 2", "kill 01 => error 2", "kill -1 => error 2", "kill 1 => error 2", "kill 9 => error 2", "enrol gateway => error 2", "enrol root 1 => error 2", "enrol laptop x => error 2", "enrol 2 1 => error 2", "enrol laptop 3 => error 15",
		"write 3 f => error 2", "write 3 f 256 => error 2", "write 3 f d => error 2", "write 3 f - => error 2", "write 3 f x => error 2", "write x f 7 => error 2", "write 3 F 7 => error 2", "write 2 f 7 => error 9", "mkdir 3 => error 2", "mkdir 3 x/y => error 6", "chmod 3 f x => error 2", "chmod 3 f 1 => error 6", "remove 3 f => error 6", "rename 3 f => error 2", "rename 3 f g => error 6",
		"resolve f 256 => error 2", "resolve f x => error 2", "resolve f => error 2", "resolve F d => error 2", "report 10001 => error 2", "report x => error 2", "deliver -1 => error 2", "deliver 0 => error 6", "double 0 => error 6", "lose 0 => error 6", "out 3 1 => error 6", "out 3 => error 2", "move 3 3 => error 15", "move 2 2 => error 13", "fuse 3 => error 2", "fuse 3 x => error 2", "crash 3 => error 2", "restart 3 => error 9", "restart 9 => error 2",
		"tree => error 2", "tree x => error 2", "store => error 2", "reports 1 => error 2", "air 1 => error 2", "scan 3\r => error 2", "tick 3 4 => error 2", "install 3 => error 6", "absorb 3 => error 6", "tick 4 => error 2", "new 5 => error 2", "members => r1 g2<1 l3<2")
}

// P32.2: users, and what they have.
func TestUsers(t *testing.T) {
	answers(t, three, "mkdir 3 d => ok", "write 3 d/f 255 => ok", "write 3 d/g 0 => ok", "chmod 3 d/f 511 => ok", "chmod 3 d/f 512 => error 2", "tree 3 => d=d d/f=255 d/g=0", "rename 3 d e => ok", "remove 3 e/g => ok", "tree 3 => e=d e/f=255", "write 3 e 1 => error 12", "mkdir 3 e => error 7", "scan 3 => ok", "scan 3 => ok", "store 3 => 3.1@e=d 3.2@e/f=255",
		"remove 3 e/f => ok", "scan 3 => ok", "store 3 => 3.1@e=d 3.3@e/f=-", "tree 3 => e=d", "tree 2 => ok", "tree 0 => ok", "store 0 => ok")
}

// P32.2, P32.3: all steps, till a file of one user comes to another one, and what clashes is reported.
func TestSteps(t *testing.T) {
	over := "out 1 2\nout 2 1\nout 2 3\nout 3 2\nout 1 4\nout 4 1\n" + strings.Repeat("deliver 0\n", 30)
	over += over + over + strings.Repeat("absorb 1\nabsorb 2\nabsorb 3\nabsorb 4\n", 3)
	over += over + over
	answers(t, three+"enrol laptop 1\nwrite 3 f 7\nscan 3\n"+over, "install 4 => ok", "tree 4 => f=7", "store 1 => 3.1@f=7", "reports => ok")
	clash := three + "enrol laptop 1\nwrite 3 f 7\nscan 3\nwrite 4 f 8\nscan 4\n" + over
	answers(t, clash, "store 1 => 3.1@f=7 4.1@f=8", "report 0 => ok", "reports => ok", "report 9 => ok", "reports => 3.1/4.1", "resolve f - => ok", "store 1 => 1.1@f=-", "report 9 => ok", "reports => 3.1/4.1")
	answers(t, clash, "crash 1 0 => ok", "reports => ok", "members => r1- g2<1 l3<2 l4<1", "report 9 => error 9", "restart 1 => ok", "reports => ok", "store 1 => 3.1@f=7 4.1@f=8")
}

// P32.2, P32.3: the air, frame by frame.
func TestAir(t *testing.T) {
	answers(t, three, "air => ok", "out 3 2 => ok", "out 2 1 => ok", "out 2 3 => ok", "air => 3>2 2>1 2>3", "double 1 => ok", "air => 3>2 2>1 2>3", "lose 4 => ok", "air => 3>2 2>3", "deliver 3 => ok", "air => 3>2", "lose 0 => ok", "air => ok", "tick 2 => ok", "tick 3 => ok")
}

// P32.2: disks that go out, and what a crash leaves: of each file so many parts.
func TestCrash(t *testing.T) {
	for keep, store := range map[string]string{"0": "ok", "5": "ok", "1000": "3.1@f=7", "2147483647": "3.1@f=7"} {
		answers(t, three, "write 3 f 7 => ok", "fuse 3 1 => ok", "scan 3 => error 10", "tick 3 => error 10", "members => r1 g2<1 l3<2", "crash 3 "+keep+" => ok", "members => r1 g2<1 l3<2-", "store 3 => ok", "tree 3 => f=7", "scan 3 => error 9", "restart 3 => ok", "members => r1 g2<1 l3<2", "store 3 => "+store)
	}
	answers(t, three, "crash 3 0 => ok", "kill 3 => ok", "members => r1 g2<1 l3<2x", "restart 3 => error 14")
}

// P32.2: a new fleet takes the place of the old one; with an error the old one stays.
func TestNew(t *testing.T) {
	answers(t, three, "new 99 => error 2", "members => r1 g2<1 l3<2", "new 100 => ok", "members => r1", "resolve f 1 => ok", "new 100 => ok", "store 1 => ok")
}

// P32.2, P32.4, P32.5: as many answers as lines with words; none hangs on what is behind it, or on blanks.
func TestWhatFollows(t *testing.T) {
	rnd := rand.New(rand.NewSource(1))
	words := []string{"members", "tree 3", "store 1", "store 3", "reports", "air", "write 3 f 7", "write 4 f 8", "mkdir 4 d", "scan 3", "scan 4", "install 3", "install 4", "absorb 1", "absorb 2", "absorb 3", "out 1 2", "out 2 1", "out 2 3", "out 3 2", "out 1 4", "out 4 1", "deliver 0", "deliver 1", "lose 0", "double 0", "report 9", "resolve f d", "tick 3", "crash 3 9", "restart 3", "fuse 4 9", "what", "", "   ", "kill x", "enrol laptop 1", "move 3 1", "chmod 3 f 5"}
	for range 60 {
		lines := strings.Split(strings.TrimSuffix(three, "\n"), "\n")
		if rnd.Intn(4) == 0 {
			lines = nil
		}
		for range 80 {
			lines = append(lines, words[rnd.Intn(len(words))])
		}
		wordy := 0
		for _, line := range lines {
			if len(bench.Words(line)) > 0 {
				wordy++
			}
		}
		text := strings.Join(lines, "\n")
		out := bench.Run(text)
		if strings.Count(out, "\n") != wordy || !strings.HasSuffix(out, "\n") || bench.Run(text+"\n") != out || bench.Run(text) != out {
			t.Fatal(text, out)
		}
		n := rnd.Intn(len(lines))
		if got := bench.Run(strings.Join(lines[:n], "\n")); !strings.HasPrefix(out, got) {
			t.Fatal(text, out, got)
		}
		blank := func() string { return strings.Repeat(" ", rnd.Intn(3)) }
		for i, line := range lines {
			lines[i] = blank() + strings.ReplaceAll(line, " ", " "+blank()) + blank()
		}
		if got := bench.Run(strings.Join(lines, "\n") + "\n\n  \n"); got != out {
			t.Fatal(text, out, got)
		}
	}
	if bench.Run("") != "" || bench.Run("\n \n") != "" {
		t.Error("nothing")
	}
}

// P32.3: as many nodes as there may be, each under the one ahead of it.
func TestManyNodes(t *testing.T) {
	text := "new 1000\n"
	for i := range 199 {
		text += "enrol gateway " + strconv.Itoa(i+1) + "\n"
	}
	out := bench.Run(text + "enrol laptop 1\nmembers\n")
	if !strings.Contains(out, "error 8\n") || !strings.HasSuffix(out, " g200<199\n") {
		t.Error(out[len(out)-100:])
	}
}
