package tongue

import "strata/api"

// script reads commands up to the text's end.
func (r *reader) script() []api.Command {
	var list []api.Command
	for r.next().Kind != api.TokEnd {
		if len(list) == api.MaxCommands {
			panic(fault{api.ErrMany, r.next().At})
		}
		list = append(list, r.command())
		r.take(";")
	}
	return list
}

// commandRule reads what stands behind a command's first token.
type commandRule func(*reader, *api.Command)

// commandRules gives them by the commands' kinds; those without one end with their first token.
func commandRules() []commandRule {
	return []commandRule{
		api.CmStmt:  (*reader).session,
		api.CmPlay:  (*reader).play,
		api.CmTick:  (*reader).counted,
		api.CmMerge: (*reader).counted,
		api.CmCrash: (*reader).crash,
		api.CmCut:   (*reader).counted,
	}
}

func (r *reader) command() api.Command {
	c := api.Command{Kind: r.commandKind()}
	if rules := commandRules(); rules[c.Kind] != nil {
		rules[c.Kind](r, &c)
	}
	return c
}

func (r *reader) commandKind() int {
	for kind, word := range commandWords {
		if r.takes(word) {
			return kind
		}
	}
	panic(r.wrong())
}

func (r *reader) session(c *api.Command) {
	c.Who = r.number()
	c.Stmt = r.statement()
}

func (r *reader) play(c *api.Command) { c.Bytes = r.token(api.TokText).Text }

func (r *reader) counted(c *api.Command) { c.Num = r.number() }

func (r *reader) crash(c *api.Command) {
	if r.next().Kind == api.TokInt {
		c.Keep = listOf(r, api.MaxList, (*reader).number)
	}
}
