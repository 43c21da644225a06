/- The law InsideBoxes. -/
import Derived.Test.YthjjhfopmianoaaInG
namespace Go.Proofs.Ythjjhfopmianoaa
set_option linter.unusedVariables false
set_option linter.unusedSimpArgs false

theorem l_insideBoxes (w : World) (px py lx ly hx hy x : Int) (_ : -9223372036854775808 ≤ x ∧ x ≤ 9223372036854775807) (y : Int) (_ : -9223372036854775808 ≤ y ∧ y ≤ 9223372036854775807) :
    Calls Try.prog 6 #[pt px py, pt lx ly, pt hx hy, .int .i64 x, .int .i64 y] w fun e w' => e = .returned (.bool true) ∧ Junk w w' := by
  rcases (by cases okP px py <;> simp : okP px py = false ∨ okP px py = true) with h1 | h1
  · exact boxes_not w px py lx ly hx hy x y _ _ _ h1 rfl rfl (.inl rfl)
  rcases (by cases okP lx ly <;> simp : okP lx ly = false ∨ okP lx ly = true) with h2 | h2
  · exact boxes_not w px py lx ly hx hy x y _ _ _ h1 h2 rfl (.inr (.inl ⟨rfl, rfl⟩))
  rcases (by cases okP hx hy <;> simp : okP hx hy = false ∨ okP hx hy = true) with h3 | h3
  · exact boxes_not w px py lx ly hx hy x y _ _ _ h1 h2 h3 (.inr (.inr (.inl ⟨rfl, rfl, rfl⟩)))
  by_cases q1 : hx ≤ lx
  · exact boxes_not w px py lx ly hx hy x y _ _ _ h1 h2 h3 (.inr (.inr (.inr (.inl ⟨rfl, rfl, rfl, q1⟩))))
  by_cases q2 : hy ≤ ly
  · exact boxes_not w px py lx ly hx hy x y _ _ _ h1 h2 h3 (.inr (.inr (.inr (.inr ⟨rfl, rfl, rfl, q1, q2⟩))))
  exact boxes_in w px py lx ly hx hy x y h1 h2 h3 q1 q2
end Go.Proofs.Ythjjhfopmianoaa
