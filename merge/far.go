package merge

import (
	"erratum/api"
)

// level is an object that is merged into another one: what has come of it so far, behind so many members.
type level struct {
	t, p api.Tree
	done int
}

// put ends the member that is next with what comes of it.
func (l *level) put(v api.Tree) {
	l.t = with(l.t, l.p.K[l.done], v)
	l.done++
}

// far is what near answers of an object. It goes by a list of levels, not by calls in one another, so that no depth is too great for it.
func far(t, p api.Tree) api.Tree {
	levels := []level{{t: object(t), p: p}}
down:
	for {
		top := len(levels) - 1
		l := &levels[top]
		for l.done < members(l.p) {
			name, v := l.p.K[l.done], l.p.V[l.done]
			if v.Kind == api.Object {
				levels = append(levels, level{t: object(member(l.t, name)), p: v})
				continue down
			}
			l.put(v)
		}
		if top == 0 {
			return l.t
		}
		levels = levels[:top]
		levels[top-1].put(l.t)
	}
}
