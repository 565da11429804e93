package types

import "pedigree/api"

// node is a place in a tree of places that are of one class; the topmost one keeps what is said of the class.
type node struct {
	up        *node
	below     int
	num, text bool
}

func (n *node) top() *node {
	for n.up != nil {
		n = n.up
	}
	return n
}

// say answers the topmost node, as join does, so that who calls sees whether the class is torn by it.
func (n *node) say(t api.Type) *node {
	top := n.top()
	top.num = top.num || t == api.TyNum
	top.text = top.text || t == api.TyText
	return top
}

// join hangs the smaller tree below the greater one: so no way upwards grows long.
func (n *node) join(other *node) *node {
	top, low := n.top(), other.top()
	if top == low {
		return top
	}
	if top.below < low.below {
		top, low = low, top
	}
	low.up = top
	top.below += low.below + 1
	top.num = top.num || low.num
	top.text = top.text || low.text
	return top
}

// said is the type of a place whose class is not torn.
func (n *node) said() api.Type {
	top := n.top()
	if top.num {
		return api.TyNum
	}
	if top.text {
		return api.TyText
	}
	return api.TyAny
}
