/- The program's four functions keep the contracts that the laws' walks take. -/
import Derived.Test.YtfjeljehodbbmaaDoorPv
import Derived.Test.YtfjeljehodbbmaaDoorPc
namespace Go.Proofs.YtfjeljehodbbmaaDoor
open Go.RowKit

theorem progLex : LexC 14 := fun s w hs hw => lex_any s hs w hw
theorem progText : TextC 18 := fun v l w hv hl hw => text_any v l w hv hl hw
theorem progName : NameC 20 := fun s w hs => (isName_any s hs w).mono fun e w' ⟨he, h⟩ => ⟨he, by subst h; exact Below.refl _ _⟩
theorem progWord : WordC 21 := fun s w => (isWord_any s w).mono fun e w' ⟨he, h⟩ => ⟨he, by subst h; exact Below.refl _ _⟩
end Go.Proofs.YtfjeljehodbbmaaDoor
