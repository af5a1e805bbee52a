package bench

import (
	"slices"

	"tributary/api"
	"tributary/fleet"
)

const (
	mostByte  = 255
	crashLoss = 100 // of how many files a crash is told how much it leaves
)

// line is what a word wants behind it, in letters, and what it does; of a step, the kind of that.
//
// The letters: n a number, k a kind of node, p a path, b a byte, f a fill.
type line struct {
	wants string
	kind  int
	does  func(*bench, args) string
}

// lines tells all words that a line may begin with.
func lines() map[string]line {
	return map[string]line{
		"new":     {"n", 0, (*bench).begin},
		"enrol":   {"kn", api.StepEnrol, (*bench).onTwo},
		"kill":    {"n", api.StepKill, (*bench).onNode},
		"move":    {"nn", api.StepMove, (*bench).onTwo},
		"write":   {"npb", api.StepWrite, (*bench).onPath},
		"mkdir":   {"np", api.StepMkdir, (*bench).onPath},
		"chmod":   {"npn", api.StepChmod, (*bench).chmod},
		"remove":  {"np", api.StepRemove, (*bench).onPath},
		"rename":  {"npp", api.StepRename, (*bench).onPath},
		"scan":    {"n", api.StepScan, (*bench).onNode},
		"install": {"n", api.StepInstall, (*bench).onNode},
		"absorb":  {"n", api.StepAbsorb, (*bench).onNode},
		"tick":    {"n", api.StepTick, (*bench).onNode},
		"out":     {"nn", api.StepOut, (*bench).onTwo},
		"deliver": {"n", api.StepDeliver, (*bench).onRoot},
		"double":  {"n", api.StepDouble, (*bench).onRoot},
		"lose":    {"n", api.StepLose, (*bench).onRoot},
		"report":  {"n", api.StepReport, (*bench).onRoot},
		"resolve": {"pf", api.StepResolve, (*bench).resolve},
		"fuse":    {"nn", api.StepFuse, (*bench).onTwo},
		"crash":   {"nn", api.StepCrash, (*bench).crash},
		"restart": {"n", api.StepRestart, (*bench).onNode},
		"members": {"", 0, (*bench).members},
		"tree":    {"n", 0, (*bench).tree},
		"store":   {"n", 0, (*bench).store},
		"reports": {"", 0, (*bench).reports},
		"air":     {"", 0, (*bench).air},
	}
}

// args is what stands behind a line's first word.
type args struct {
	kind    int
	numbers []int
	texts   []string
	effect  api.Effect
}

// read reads words by the letters of what is wanted, if they are that.
func read(wants string, words []string) (args, bool) {
	var a args
	if len(words) != len(wants) {
		return args{}, false
	}
	for i, c := range wants {
		word := words[i]
		n, is := Number(word)
		switch c {
		case 'p':
			a.texts = append(a.texts, word)
			continue
		case 'k':
			n, is = kindOf(word)
			a.numbers = append(a.numbers, n)
		case 'n':
			a.numbers = append(a.numbers, n)
		case 'f':
			if e, other := fillOf(word); other {
				a.effect = e
				continue
			}
			fallthrough
		case 'b':
			is = is && n <= mostByte
			a.effect = api.Effect{Kind: api.KindFile, Bytes: []byte{byte(n)}}
		}
		if !is {
			return args{}, false
		}
	}
	return a, true
}

// kindOf tells the kind of nodes that a word names.
func kindOf(word string) (int, bool) {
	switch word {
	case "gateway":
		return api.KindGateway, true
	case "laptop":
		return api.KindLaptop, true
	}
	return 0, false
}

// fillOf tells the effect of a fill that is no number.
func fillOf(word string) (api.Effect, bool) {
	switch word {
	case "d":
		return api.Effect{Kind: api.KindDir}, true
	case "-":
		return api.Effect{Kind: api.KindGone}, true
	}
	return api.Effect{}, false
}

// begin begins with another fleet.
func (b *bench) begin(a args) string {
	f, err := fleet.New(a.numbers[0])
	if err == api.OK {
		b.fleet = f
	}
	return told(err)
}

func (b *bench) do(s api.Step) string { return told(b.fleet.Do(s)) }

func (b *bench) onNode(a args) string { return b.do(api.Step{Kind: a.kind, N: a.numbers[0]}) }

func (b *bench) onTwo(a args) string {
	return b.do(api.Step{Kind: a.kind, N: a.numbers[0], At: a.numbers[1]})
}

// onRoot does a step of the root, or of no node, with a number.
func (b *bench) onRoot(a args) string {
	return b.do(api.Step{Kind: a.kind, N: 1, At: a.numbers[0]})
}

// onPath does a step of a user at a path, perhaps with another one, or with an effect.
func (b *bench) onPath(a args) string {
	s := api.Step{Kind: a.kind, N: a.numbers[0], Path: a.texts[0], Effect: a.effect}
	if len(a.texts) > 1 {
		s.To = a.texts[1]
	}
	return b.do(s)
}

func (b *bench) chmod(a args) string {
	return b.do(api.Step{Kind: a.kind, N: a.numbers[0], Path: a.texts[0], Effect: api.Effect{Mode: a.numbers[1]}})
}

func (b *bench) resolve(a args) string {
	return b.do(api.Step{Kind: a.kind, N: 1, Path: a.texts[0], Effect: a.effect})
}

func (b *bench) crash(a args) string {
	return b.do(api.Step{Kind: a.kind, N: a.numbers[0], Keep: slices.Repeat([]int{a.numbers[1]}, crashLoss)})
}
