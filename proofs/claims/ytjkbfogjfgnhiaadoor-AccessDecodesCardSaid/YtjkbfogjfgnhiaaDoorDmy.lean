
/-
  A scope with gotos, each of which is walked on from its label; at most n of them in a row.
-/
import Derived.Test.YtjkbfogjfgnhiaaDoorLtr
import Derived.Test.YtjkbfogjfgnhiaaDoorVau
import Derived.WalkMore
namespace Go
set_option linter.unusedVariables false
set_option linter.unusedSimpArgs false

/-- As Q; at a goto: what lies behind the label in C is walked on. -/
def Exit.fwd (P : Program) (C : Code) (Q : Exit → Act → World → Prop) : Nat → Exit → Act → World → Prop
  | 0, .goto _, _, _ => False
  | n + 1, .goto l, a, w => ∃ rest, findLabel C l = some rest ∧ rest.wp P (Exit.fwd P C Q n) a w
  | _, .normal, a, w => Q .normal a w
  | _, .exit id, a, w => Q (.exit id) a w
  | _, .ret, a, w => Q .ret a w
  | _, .panic ch, a, w => Q (.panic ch) a w
  | _, .outgrown, a, w => Q .outgrown a w

section
variable {P : Program} {C : Code} {a : Act} {w : World} {Q : Exit → Act → World → Prop} {n : Nat}
@[go_sem] theorem Exit.fwd_normal : Exit.fwd P C Q n .normal a w = Q .normal a w := by cases n <;> rfl
@[go_sem] theorem Exit.fwd_exit (id : Nat) : Exit.fwd P C Q n (.exit id) a w = Q (.exit id) a w := by cases n <;> rfl
@[go_sem] theorem Exit.fwd_ret : Exit.fwd P C Q n .ret a w = Q .ret a w := by cases n <;> rfl
@[go_sem] theorem Exit.fwd_panic (ch : List PanicEntry) : Exit.fwd P C Q n (.panic ch) a w = Q (.panic ch) a w := by cases n <;> rfl
theorem Exit.fwd_outgrown : Exit.fwd P C Q n .outgrown a w = Q .outgrown a w := by cases n <;> rfl
theorem Exit.fwd_goto {l : Nat} {rest : Code} (hf : findLabel C l = some rest) (h : rest.wp P (Exit.fwd P C Q n) a w) : Exit.fwd P C Q (n + 1) (.goto l) a w := ⟨rest, hf, h⟩

theorem wp_scope_fwd (n : Nat) {c : Code} (h : ∀ C, C = c → c.wp P (Exit.fwd P C Q n) a w) : (Code.scope c).wp P Q a w := by
  intro b k cs
  have key : ∀ n (r : Code) a w, r.wp P (Exit.fwd P c Q n) a w → ∃ e a' w', Q e a' w' ∧ Arrives P (lone (b.at a (.code r :: .inScope c :: k)) cs w) b k cs e a' w' := by
    intro n
    induction n with
    | zero =>
      intro r a w hr
      obtain ⟨e, a₁, w₁, hq, harr⟩ := hr b (.inScope c :: k) cs
      cases e with
      | normal => exact ⟨.normal, a₁, w₁, by rwa [Exit.fwd_normal] at hq, Steps.trans harr (.one step_inScope)⟩
      | exit id => exact ⟨.exit id, a₁, w₁, by rwa [Exit.fwd_exit] at hq, fun k' hk => harr k' (by simp [exitTo, hk])⟩
      | goto l' => exact hq.elim
      | ret => exact ⟨.ret, a₁, w₁, by rwa [Exit.fwd_ret] at hq, harr⟩
      | panic ch => exact ⟨.panic ch, a₁, w₁, by rwa [Exit.fwd_panic] at hq, harr⟩
      | outgrown => exact ⟨.outgrown, a₁, w₁, by rwa [Exit.fwd_outgrown] at hq, harr⟩
    | succ n ih =>
      intro r a w hr
      obtain ⟨e, a₁, w₁, hq, harr⟩ := hr b (.inScope c :: k) cs
      cases e with
      | normal => exact ⟨.normal, a₁, w₁, by rwa [Exit.fwd_normal] at hq, Steps.trans harr (.one step_inScope)⟩
      | exit id => exact ⟨.exit id, a₁, w₁, by rwa [Exit.fwd_exit] at hq, fun k' hk => harr k' (by simp [exitTo, hk])⟩
      | goto l' =>
        obtain ⟨rest, hf, hr'⟩ := hq
        obtain ⟨e₂, a₂, w₂, hq₂, harr₂⟩ := ih rest a₁ w₁ hr'
        exact ⟨e₂, a₂, w₂, hq₂, .of_steps (harr _ (by simp [gotoIn, hf])) harr₂⟩
      | ret => exact ⟨.ret, a₁, w₁, by rwa [Exit.fwd_ret] at hq, harr⟩
      | panic ch => exact ⟨.panic ch, a₁, w₁, by rwa [Exit.fwd_panic] at hq, harr⟩
      | outgrown => exact ⟨.outgrown, a₁, w₁, by rwa [Exit.fwd_outgrown] at hq, harr⟩
  obtain ⟨e, a₁, w₁, hq, harr⟩ := key n c a w (h c rfl)
  exact ⟨e, a₁, w₁, hq, .of_steps (.one step_scope) harr⟩
end
end Go
