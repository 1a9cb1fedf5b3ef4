/- Layer 3 of the program: every step does what it should. -/
import Derived.Test.YteohmemifogdlaaZY
import Derived.Test.YteohmemifogdlaaZP
namespace Go.Proofs.Yteohmemifogdlaa
open Go.RowKit Lg Go.Maps
set_option linter.unusedVariables false
set_option linter.unusedSimpArgs false

theorem stepC : StepC := step_all fun B b src r D nD o kp w h hol N hN k x p hx1 hx2 hat y hy hn isd hx3 =>
  (split_if B b src r D nD o kp w h hol N hN k x p hx1 hx2 hat y hy hn isd hx3).mono fun e w' ⟨q1, v, q2, q3⟩ => ⟨q1, ⟨v, q2⟩, q3⟩
end Go.Proofs.Yteohmemifogdlaa
