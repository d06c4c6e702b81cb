/-
  The walk of united.
-/
import Derived.Test.YtjkbfogjfgnhiaaDoorAdw
namespace Go.Proofs.YtjkbfogjfgnhiaaDoor
set_option linter.unusedVariables false
set_option linter.unusedSimpArgs false
open Go.RowKit

def uniS (x y : Sc) : Sc := ⟨bits .or .i64 x.pins y.pins, bits .or .i64 x.keys y.keys, max x.state y.state, bits .or .i64 x.level y.level⟩
def uniR (l : List Sc) (x : Sc) (b : List Sc) : List Sc := b.foldl (fun l y => addS l (uniS x y)) l
/-- What united answers. -/
def unitL (a b : List Sc) : List Sc := a.foldl (fun l x => uniR l x b) []
theorem uniR_take (l : List Sc) (x : Sc) (b : List Sc) (k : Nat) (h : k < b.length) : uniR l x (b.take (k + 1)) = addL (uniR l x (b.take k)) [uniS x b[k]] := by
  rw [uniR, List.take_succ_eq_append_getElem h, List.foldl_append]; rfl
theorem unitL_take (a b : List Sc) (k : Nat) (h : k < a.length) : unitL (a.take (k + 1)) b = uniR (unitL (a.take k) b) a[k] b := by
  rw [unitL, List.take_succ_eq_append_getElem h, List.foldl_append]; rfl
theorem uniR_len : ∀ (b l : List Sc) (x : Sc), (uniR l x b).length ≤ l.length + b.length
  | [], l, x => by simp [uniR]
  | y :: b, l, x => by
    have h1 := uniR_len b (addS l (uniS x y)) x
    have h2 := addS_len l (uniS x y)
    have e : uniR l x (y :: b) = uniR (addS l (uniS x y)) x b := rfl
    rw [e, List.length_cons]
    omega
theorem unitL_len (b : List Sc) : ∀ (a l : List Sc), (a.foldl (fun l x => uniR l x b) l).length ≤ l.length + a.length * b.length
  | [], l => by simp
  | x :: a, l => by
    have h1 := unitL_len b a (uniR l x b)
    have h2 := uniR_len b l x
    rw [List.foldl_cons, List.length_cons, Nat.add_mul]
    omega

set_option maxRecDepth 100000 in
set_option maxHeartbeats 12800000 in
theorem puni_any (a b : List Sc) (va vb : Value) (w : World) (ha : ML w w.heap.size va a) (hb : ML w w.heap.size vb b) (hlen : a.length * b.length + b.length ≤ 90000) :
    Calls Tryd.prog 74 #[va, vb] w fun e w' => ∃ v', e = .returned v' ∧ OSc w' w.heap.size v' (unitL a b) ∧ Below w.heap.size w w' := by
  obtain ⟨A1, c1, rfl, h11, h12, h13⟩ := id ha
  obtain ⟨A2, c2, rfl, h21, h22, h23⟩ := id hb
  unfold maxLen at h12 h22
  have HLN : Hid (∀ k, (unitL (a.take k) b).length ≤ a.length * b.length) := fun k => by
    have h := unitL_len b (a.take k) []
    have h2 : (a.take k).length * b.length ≤ a.length * b.length := Nat.mul_le_mul_right _ (by rw [List.length_take]; omega)
    have e : unitL (a.take k) b = (a.take k).foldl (fun l x => uniR l x b) [] := rfl
    rw [e]
    simp only [List.length_nil, Nat.zero_add] at h
    omega
  clear ha hb
  go_enter Tryd.func74, Tryd.ntmps74
  go_wp2_with fail
  go_loopw [5, 12] (fun q i wr => ∃ k : Nat, k ≤ a.length ∧ i = .int .i64 k ∧ Hid (OSc wr w.heap.size q (unitL (a.take k) b)) ∧ Hid (Below w.heap.size w wr)) (fun _ i _ => a.length - (intOf i).toNat)
  case atStart => exact ⟨0, Nat.zero_le _, rfl, by show OSc _ _ _ _; rw [List.take_zero]; exact OSc.nil _ _, Below.refl _ _⟩
  case round =>
    obtain ⟨k, hk, rfl, HO, HB⟩ := hrel
    obtain ⟨wo, hwo⟩ : ∃ z, z = wr := ⟨wr, rfl⟩
    subst hwo
    obtain ⟨A6, c6, hq6⟩ := HO.out.value
    by_cases hlt : k < a.length
    · obtain ⟨b1, o1, rfl, hb1, hts⟩ := h13.out (by omega)
      obtain ⟨g0, g1, g2, g3⟩ := (hts k hlt).keep hb1 (fun p hp => HB.out.cell hp)
      have hak := unitL_take a b k hlt
      obtain ⟨x, hx⟩ : ∃ x, x = a[k] := ⟨_, rfl⟩
      rw [← hx] at g0 g1 g2 g3 hak
      have hba := alloc_below wo x.row
      have hn0 := heap_alloc_new wo x.row
      have hz0 := alloc_size wo x.row
      have hll := HLN.out k
      obtain ⟨LK, hLK⟩ : ∃ L, L = unitL (a.take k) b := ⟨_, rfl⟩
      rw [← hLK] at hak HO hq6 hll
      have HAK := Lib.hid hak
      have HBA := Lib.hid hba
      have HN0 := Lib.hid hn0
      have HZ0 := Lib.hid hz0
      have HLR : Hid (∀ j, j ≤ b.length → (uniR LK x (b.take j)).length ≤ 90000) := fun j hj => by
        have h := uniR_len (b.take j) LK x
        have h2 : (b.take j).length ≤ b.length := by rw [List.length_take]; omega
        omega
      have hs1 := HB.out.size
      clear hts hx hak hba hn0 hz0 hLK hll
      subst hq6
      go_wp2_with fail
      go_loopw [5, 18] (fun q i wx => ∃ j : Nat, j ≤ b.length ∧ i = .int .i64 j ∧ Hid (OSc wx w.heap.size q (uniR LK x (b.take j))) ∧ Hid (Below w.heap.size (wo.alloc x.row) wx) ∧ Hid (wx.heap[wo.heap.size]? = some x.row) ∧ Hid (q.ownBlock ≠ some wo.heap.size)) (fun _ i _ => b.length - (intOf i).toNat)
      case atStart => exact ⟨0, Nat.zero_le _, rfl, by show OSc _ _ _ _; rw [List.take_zero]; exact HO.out.later HBA.out, Below.refl _ _, HN0, fun e => by have := (HO.out.ltB _ e).2; omega⟩
      case round =>
        obtain ⟨j, hj, rfl, HO2, HB2, HR2, HN2⟩ := hrel
        obtain ⟨A7, c7, hq7⟩ := HO2.out.value
        have hrs : wo.heap.size < wr.heap.size := (Array.getElem?_eq_some_iff.1 HR2.out).1
        have HBX := Lib.hid (HB.out.trans ((HBA.out.mono hs1).trans HB2.out))
        have p0 := cell_of_row _ _ 0 _ _ _ HR2.out
        have p1 := cell_of_row _ _ 1 _ _ _ HR2.out
        have p2 := cell_of_row _ _ 2 _ _ _ HR2.out
        have p3 := cell_of_row _ _ 3 _ _ _ HR2.out
        by_cases hlt2 : j < b.length
        · obtain ⟨b2, o2, rfl, hb2, hts2⟩ := h23.out (by omega)
          obtain ⟨f0, f1, f2, f3⟩ := (hts2 j hlt2).keep hb2 (fun p hp => HBX.out.cell hp)
          have hbk := uniR_take LK x b j hlt2
          have hlr := HLR.out j (by omega)
          obtain ⟨y, hy⟩ : ∃ y, y = b[j] := ⟨_, rfl⟩
          rw [← hy] at f0 f1 f2 f3 hbk
          obtain ⟨LQ, hLQ⟩ : ∃ L, L = uniR LK x (b.take j) := ⟨_, rfl⟩
          rw [← hLQ] at hbk HO2 hq7 hlr
          have hw3 := alloc2_below wr y.row (uniS x y).row
          have hz3 : ((wr.alloc y.row).alloc (uniS x y).row).heap.size = wr.heap.size + 1 + 1 := by rw [alloc_size, alloc_size]
          have hml := ML.one (wr.alloc y.row) (uniS x y)
          rw [alloc_size wr] at hml
          have hsx := HBX.out.size
          subst hq7
          have HQ := Lib.hid (padd_any LQ [uniS x y] _ _ w.heap.size _ (HO2.out.later hw3) hml (fun _ e => by have := (HO2.out.ltB (wr.heap.size + 1) e.symm).2; omega) (by rw [hz3]; omega) (by show LQ.length + 1 ≤ _; omega))
          have HR3 := Lib.hid ((hw3.block wo.heap.size hrs).trans HR2.out)
          have HZ3 := Lib.hid hz3
          have HW3 := Lib.hid hw3
          have HBK := Lib.hid hbk
          have HN3 : Hid ((Value.slice A7 LQ.length c7).ownBlock ≠ some wo.heap.size) := HN2.out
          have m1 : (max x.state y.state : Int) = (uniS x y).state := rfl
          clear hts2 hy hLQ hw3 hz3 hml hbk hlr
          go_wp2_with fail
          refine HQ.out.mono ?_
          rintro e w5 ⟨v5, rfl, hos5, hb5, hk5⟩
          obtain ⟨A8, c8, rfl⟩ := hos5.value
          have HO5 := Lib.hid hos5
          have HB5 := Lib.hid (HB2.out.trans ((HW3.out.mono hsx).trans hb5))
          have HR5 := Lib.hid ((hk5.1 wo.heap.size (by rw [HZ3.out]; omega) HN3.out).trans HR3.out)
          have HN5 : Hid ((Value.slice A8 (addL LQ [uniS x y]).length c8).ownBlock ≠ some wo.heap.size) := fun e => by
            rcases hk5.2.1 with h | ⟨g, h, hg⟩
            · exact HN3.out (h.symm.trans e)
            · have := Option.some.inj (h.symm.trans e); rw [HZ3.out] at hg; omega
          clear hos5 hb5 hk5
          go_wp2_with fail
          go_roundw
          case rel => exact ⟨j + 1, by omega, by go_num, by show OSc _ _ _ _; rw [HBK.out]; exact HO5.out, HB5, HR5, HN5⟩
          case measure => simp [intOf]; omega
        · have hjj : j = b.length := by omega
          have hos := HO2.out
          rw [hjj, List.take_length] at hos hq7
          subst hq7
          have HOS := Lib.hid hos
          clear hos hjj p0 p1 p2 p3
          go_wp2_with fail
          go_roundw
          case rel => exact ⟨k + 1, by omega, by go_num, by show OSc _ _ _ _; rw [HAK.out]; exact HOS.out, HBX⟩
          case measure => simp [intOf]; omega
    · have hkk : k = a.length := by omega
      have hos := HO.out
      rw [hkk, List.take_length] at hos hq6
      subst hq6
      have HOS := Lib.hid hos
      clear hos hkk
      go_wp2_with fail
      go_ret
      exact ⟨_, rfl, HOS.out, HB.out⟩
end Go.Proofs.YtjkbfogjfgnhiaaDoor
