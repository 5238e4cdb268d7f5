package trees

import "testing"

type tree struct {
	name string
	kids []tree
}

func (c *Comparer) trees(a, b *tree) bool {
	return a.name == b.name && Each(c, a.kids, b.kids, c.trees)
}

func same(a, b []tree) bool {
	var c Comparer
	return Each(&c, a, b, c.trees)
}

func leaf(name string) tree { return tree{name: name} }

// chain returns a tree of so many levels.
func chain(levels int, last tree) []tree {
	l := []tree{last}
	for range levels - 1 {
		l = []tree{{kids: l}}
	}
	return l
}

func TestEach(t *testing.T) {
	many := func() []tree {
		return []tree{leaf("a"), {"b", []tree{leaf("c"), leaf("d"), {"e", []tree{leaf("f")}}}}, leaf("g")}
	}
	if !same(nil, nil) || !same(nil, []tree{}) || !same(many(), many()) {
		t.Error("the same trees")
	}
	for i := range 7 {
		other := many()
		switch i {
		case 0:
			other[0].name = "x"
		case 1:
			other[1].kids[2].kids[0].name = "x"
		case 2:
			other[2].name = "x"
		case 3:
			other[1].kids[2].kids = nil
		case 4:
			other = other[:2]
		case 5:
			other = append(other, leaf("g"))
		case 6:
			other[1].kids[0].kids = []tree{{}}
		}
		if same(many(), other) || same(other, many()) {
			t.Errorf("%v is another tree", other)
		}
	}
}

func TestEachDeep(t *testing.T) {
	for _, levels := range []int{1, 1000, 1 << 16, MaxLevels - 1} {
		if !same(chain(levels, leaf("a")), chain(levels, leaf("a"))) || same(chain(levels, leaf("a")), chain(levels, leaf("b"))) {
			t.Errorf("trees of %d levels", levels)
		}
	}
	if same(chain(MaxLevels+1, leaf("a")), chain(MaxLevels+1, leaf("a"))) {
		t.Error("trees of too many levels are the same")
	}
	// Lists beside each other are no levels.
	wide := make([]tree, 2*MaxLevels)
	for i := range wide {
		wide[i].kids = []tree{leaf("a")}
	}
	if !same(wide, wide) {
		t.Error("many trees beside each other")
	}
	circle := make([]tree, 2)
	circle[0].kids, circle[1].kids = circle, circle
	if same(circle, circle) {
		t.Error("a tree that is a part of itself")
	}
}
