package code

import "verdict/api"

// most tells how many values the stack has at most, and how many lists are gone over at once. It is enough to go through the instructions from the first one to the last one: wherever two ways meet, both have as many values and lists.
func most(instrs []api.Instr) (values, lists int) {
	on, over := 0, 0
	for _, one := range instrs {
		switch one.Op {
		case api.OpPush, api.OpLoad:
			on++
		case api.OpNode:
			on += 1 - one.N
		case api.OpElse, api.OpJump:
			// Behind a jump stands the other way, on which its value has not come.
			on--
		case api.OpEach:
			on--
			over++
		case api.OpNext:
			over--
		}
		values, lists = max(values, on), max(lists, over)
	}
	return values, lists
}
