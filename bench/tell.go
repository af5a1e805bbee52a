package bench

import (
	"strconv"

	"tributary/api"
	"tributary/dot"
	"tributary/print"
)

// members tells each node: what it is, under whom, and whether it is dead, or down.
func (b *bench) members(args) string {
	var out []string
	for i, m := range b.fleet.Members() {
		n := i + 1
		s := letter(m.Kind) + strconv.Itoa(n)
		if m.Kind != api.KindRoot {
			s += "<" + strconv.Itoa(m.Up)
		}
		if m.Dead {
			s += "x"
		} else if !b.fleet.Up(n) {
			s += "-"
		}
		out = append(out, s)
	}
	return listed(out)
}

// letter tells a kind of nodes.
func letter(kind int) string {
	switch kind {
	case api.KindRoot:
		return "r"
	case api.KindGateway:
		return "g"
	}
	return "l"
}

// tree tells what a node's user has.
func (b *bench) tree(a args) string {
	var out []string
	for _, x := range b.fleet.Tree(a.numbers[0]) {
		out = append(out, x.Path+"="+effectText(x.Effect))
	}
	return listed(out)
}

// store tells the events of a node's store.
func (b *bench) store(a args) string {
	var out []string
	for _, e := range b.fleet.Node(a.numbers[0]).Store {
		out = append(out, dotText(e.Dot)+"@"+e.Path+"="+effectText(e.Effect))
	}
	return listed(out)
}

// reports tells what the root reported.
func (b *bench) reports(args) string {
	var out []string
	for _, r := range b.fleet.Node(1).Reports {
		out = append(out, dotText(r.Clash.A)+"/"+dotText(r.Clash.B))
	}
	return listed(out)
}

// air tells what is on its way.
func (b *bench) air(args) string {
	var out []string
	for _, x := range b.fleet.Air() {
		out = append(out, strconv.Itoa(x.From)+">"+strconv.Itoa(x.To))
	}
	return listed(out)
}

// dotText tells the text of a dot of an event, which may be.
func dotText(d api.Dot) string {
	s, _ := dot.Text(d)
	return s
}

// effectText tells an effect: d of a Dir, - of Gone, a File's one byte, or its bytes' fingerprint.
func effectText(e api.Effect) string {
	switch {
	case e.Kind == api.KindDir:
		return "d"
	case e.Kind == api.KindGone:
		return "-"
	case len(e.Bytes) == 1:
		return strconv.Itoa(int(e.Bytes[0]))
	}
	return print.Text(print.Sum(e.Bytes))
}
