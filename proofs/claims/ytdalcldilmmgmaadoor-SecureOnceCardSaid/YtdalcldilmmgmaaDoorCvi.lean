/-
  Two protected commands one after the other: which of them a side accepts.
-/
import Derived.Test.YtdalcldilmmgmaaDoorCvh
namespace Go.Proofs.YtdalcldilmmgmaaDoor
set_option linter.unusedVariables false
set_option linter.unusedSimpArgs false
open Go.RowKit

/-- The first command, the state behind it, and the second command. -/
def onX (S : Ch) (a : Cm) : Cm := wrY S a 0
def onS (S : Ch) (a : Cm) : Ch := S.next (onX S a).data
def onY (S : Ch) (a b : Cm) : Cm := wrY (onS S a) b 1
theorem onX_8 (S : Ch) (a : Cm) : (onX S a).data.length = (wrB S a 0).length + 8 := wrD_len S a 0
theorem onX_le (S : Ch) (a : Cm) : (onX S a).data.length ≤ a.data.length + 16 := wrD_le S a 0
theorem onY_8 (S : Ch) (a b : Cm) : (onY S a b).data.length = (wrB (onS S a) b 1).length + 8 := wrD_len _ b 1
theorem onY_le (S : Ch) (a b : Cm) : (onY S a b).data.length ≤ b.data.length + 16 := wrD_le _ b 1
theorem onS_ok {S : Ch} (o : Okc S 0) (a : Cm) : Okc (onS S a) 1 := o.next _ (fun _ => by rw [onX_8]; omega)
theorem onS_cv {S : Ch} (hL : hasB S.lvl 1 = true) (a : Cm) : (onS S a).cv = (onX S a).data.drop ((onX S a).data.length - 8) := by
  show (if hasB S.lvl 1 = true then _ else _) = _
  rw [if_pos hL]
/-- The MAC hangs on the chaining value. -/
theorem cmF_ne {S T : Ch} (x : Cm) (b : List UInt8) (h1 : S.cv.length = 8) (h2 : T.cv.length = 8) (hm : S.mac = T.mac) (h : S.cv ≠ T.cv) : cmF S x b ≠ cmF T x b := by
  unfold cmF
  rw [hm]
  exact macL_ne h1 h2 h
section
variable {S : Ch} {a b : Cm} (o : Okc S 0) (hL : hasB S.lvl 1 = true) (hE : wrE S a = 0) (hF : wrE (onS S a) b = 0) (hla : a.data.length ≤ 600) (hlb : b.data.length ≤ 600)
  (hne : (onX S a).data.drop ((onX S a).data.length - 8) ≠ S.cv)
include o hL hE hla in
/-- The first command is accepted. -/
theorem on_first (g : Nat) (A : Option Addr) (k : Nat) (W : World) (h : CH W g S) (hd : SL W W.heap.size (.slice A (onX S a).data.length k) (onX S a).data) :
    Calls Tryd.prog 11 #[.pointer (some ⟨g, 0, none⟩), (onX S a).val (.slice A (onX S a).data.length k)] W fun e w' => ∃ (y : Cm) (A2 : Option Addr) (c2 : Nat), e = .returned (.tuple #[y.val (.slice A2 y.data.length c2), .int .i64 0]) ∧ CH w' g (onS S a) ∧ Kb g W w' := by
  have hr := rt_any S S a 0 o.enc o.cls hE (by omega)
  have := onX_le S a
  refine (pUnwrap_mac g S a (onX S a) A k 0 W h o (by omega) hL hr hd (by omega)).mono ?_
  rintro e w' ⟨v, he, hv, hc, hk⟩
  obtain ⟨A2, c2, rfl, _⟩ := id hv
  exact ⟨_, A2, c2, he, hc, hk⟩
include o hL hE hla hne in
/-- It is not accepted again. -/
theorem on_again (g : Nat) (A : Option Addr) (k : Nat) (W : World) (h : CH W g (onS S a)) (ht : ET W) (hd : SL W W.heap.size (.slice A (onX S a).data.length k) (onX S a).data) :
    Calls Tryd.prog 11 #[.pointer (some ⟨g, 0, none⟩), (onX S a).val (.slice A (onX S a).data.length k)] W fun e w' => e = .returned (.tuple #[Cm.zero.val (.slice none 0 0), .int .i64 17]) ∧ CH w' g (onS S a).shut ∧ Kb g W w' := by
  have o1 := onS_ok o a
  have hr := rt_any S (onS S a) a 0 o.enc o1.cls hE (by omega)
  have hl := onX_le S a
  refine pUnwrap_wrong g (onS S a) (onX S a) A k 1 W h ht o1 hL hr.cl hr.sec hr.l8 ?_ hd (by omega)
  have hm : (onX S a).data.drop ((onX S a).data.length - 8) = _ := hr.mac
  rw [hm]
  refine cmF_ne _ _ o.cv o1.cv rfl ?_
  rw [onS_cv hL]
  exact fun e => hne e.symm
include o hL hF hlb hne in
/-- The second one is not accepted before it. -/
theorem on_second (g : Nat) (A : Option Addr) (k : Nat) (W : World) (h : CH W g S) (ht : ET W) (hd : SL W W.heap.size (.slice A (onY S a b).data.length k) (onY S a b).data) :
    Calls Tryd.prog 11 #[.pointer (some ⟨g, 0, none⟩), (onY S a b).val (.slice A (onY S a b).data.length k)] W fun e w' => e = .returned (.tuple #[Cm.zero.val (.slice none 0 0), .int .i64 17]) ∧ CH w' g S.shut ∧ Kb g W w' := by
  have o1 := onS_ok o a
  have hr := rt_any (onS S a) S b 1 o1.enc o.cls hF (by omega)
  have hl := onY_le S a b
  refine pUnwrap_wrong g S (onY S a b) A k 0 W h ht o hL hr.cl hr.sec hr.l8 ?_ hd (by omega)
  have hm : (onY S a b).data.drop ((onY S a b).data.length - 8) = _ := hr.mac
  rw [hm]
  refine cmF_ne _ _ o1.cv o.cv rfl ?_
  rw [onS_cv hL]
  exact hne
end
end Go.Proofs.YtdalcldilmmgmaaDoor
