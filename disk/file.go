package disk

// content is what a file has, if it is there.
type content struct {
	b     []byte
	there bool
}

// change is a loose change of a file.
type change interface {
	// parts tells how many parts there are of it.
	parts() int
	// done tells what a file has behind the first so many of them, of which there is one at least.
	done(x content, parts int) content
}

type appended []byte

func (a appended) parts() int { return max(len(a), 1) }

func (a appended) done(x content, parts int) content {
	return content{b: append(x.b, a[:min(parts, len(a))]...), there: true}
}

type replaced []byte

func (r replaced) parts() int { return 1 }

func (r replaced) done(content, int) content { return content{b: r, there: true} }

type removed struct{}

func (removed) parts() int { return 1 }

func (removed) done(content, int) content { return content{} }

// file is what is firm of a file, its loose changes, and what it has with these.
type file struct {
	firm, now content
	loose     []change
}

func (f *file) change(c change) {
	f.now = c.done(f.now, c.parts())
	f.loose = append(f.loose, c)
}

// first tells what the file has with the first so many parts of its loose changes alone.
func (f *file) first(parts int) content {
	x := f.firm
	for _, c := range f.loose {
		if parts <= 0 {
			break
		}
		n := min(parts, c.parts())
		x = c.done(x, n)
		parts -= n
	}
	return x
}
