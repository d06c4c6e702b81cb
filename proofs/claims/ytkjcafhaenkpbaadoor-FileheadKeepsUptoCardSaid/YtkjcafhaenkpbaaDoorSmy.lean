/-
  The numbers of a header; bytes.Equal; '==' of two structs of seven numbers.
-/
import Derived.Test.YtkjcafhaenkpbaaDoorSmx
namespace Go.Proofs.YtkjcafhaenkpbaaDoor
set_option linter.unusedVariables false
set_option linter.unusedSimpArgs false
open Go.RowKit

def Fl.nums (f : Fl) : List Int := [f.id, f.kind, f.short, f.size, f.len, f.recs, f.state]
def samF (f g : Fl) : Bool := decide (f.nums = g.nums) && (decide (f.name = g.name) && samR f.rules g.rules)
def nmV (f : Fl) : Value := .agg #[.int .i64 f.id, .int .i64 f.kind, .int .i64 f.short, .int .i64 f.size, .int .i64 f.len, .int .i64 f.recs, .int .i64 f.state]
theorem results_cell1 {P : Program} {fn : Func} {p : Tmp} {ty : TypeId} (h : fn.results = #[.cell p ty]) (tmps : Array Value) (w : World) (g : Nat) (t : TypeId) (cs : Array Value) (fr : Nat × Nat) (d : TypeDesc)
    (hp : tmps.getD p undef = .pointer (some ⟨g, 0, none⟩)) (hg : w.heap[g]? = some (.cells cs t fr))
    (hu : P.underlying ty = some d) (hd : (match d with | .struct _ | .array _ _ => true | _ => false) = true) (hi : (P.info? ty).map (·.size) = some cs.size) :
    (results fn tmps).run P w = .ok (.agg cs) w := by
  have hp' : tmps[p]?.getD undef = .pointer (some ⟨g, 0, none⟩) := by simpa using hp
  simp [results, h, hp', asAddr, run_loadVar_row w g t ty cs fr d hg hu hd hi]

set_option maxRecDepth 100000 in
set_option maxHeartbeats 6400000 in
theorem pnums_any (f : Fl) (A1 : Option Addr) (c1 : Nat) (A2 : Option Addr) (c2 : Nat) (w : World) :
    Calls Tryd.prog 44 #[flV f A1 c1 A2 c2] w fun e w' => e = .returned (nmV f) ∧ Below w.heap.size w w' := by
  have hb1 := alloc_below w (flB f A1 c1 A2 c2)
  have hb2 := alloc_below (w.alloc (flB f A1 c1 A2 c2)) (Obj.cells #[.int .i64 f.id, .int .i64 f.kind, .int .i64 f.short, .int .i64 f.size, .int .i64 f.len, .int .i64 f.recs, .int .i64 f.state] 73)
  have HB0 := Lib.hid (hb1.trans (hb2.mono hb1.size))
  clear hb1 hb2
  unfold flB at HB0
  unfold flV
  have HN := Lib.hid (heap_alloc_new (w.alloc (Obj.cells #[.int .i64 f.id, .int .i64 f.kind, .slice A1 f.name.length c1, .int .i64 f.short, .int .i64 f.size, .int .i64 f.len, .int .i64 f.recs, .int .i64 f.state, .slice A2 f.rules.length c2] 25)) (Obj.cells #[.int .i64 f.id, .int .i64 f.kind, .int .i64 f.short, .int .i64 f.size, .int .i64 f.len, .int .i64 f.recs, .int .i64 f.state] 73))
  rw [alloc_size] at HN
  go_enter Tryd.func44, Tryd.ntmps44
  go_wp2_with fail
  exact bodyPost_ret (results_cell1 rfl _ _ (w.heap.size + 1) 73 _ (0, 0) _ rfl HN.out Tryd.underlying73 rfl (by kernel_rfl)) rfl ⟨rfl, HB0.out⟩

theorem ba_tl (a b : ByteArray) : a.toList = b.toList ↔ a = b := by
  rw [ByteArray.toList_eq, ByteArray.toList_eq]
  constructor
  · intro h; exact ByteArray.ext (Array.toList_inj.1 h)
  · intro h; rw [h]
theorem ba_arr (l m : List UInt8) : ((⟨l.toArray⟩ : ByteArray) = ⟨m.toArray⟩) ↔ l = m := by
  constructor
  · intro h
    have := congrArg (fun b : ByteArray => b.data.toList) h
    simpa using this
  · intro h; rw [h]
set_option maxRecDepth 100000 in
theorem pbeq_any (l m : List UInt8) (v u : Value) (w : World) (h1 : ∃ B, SL w B v l) (h2 : ∃ B, SL w B u m) : Calls Tryd.prog 40 #[v, u] w fun e w' => e = .returned (.bool (decide (l = m))) ∧ w' = w := by
  obtain ⟨_, h1⟩ := h1
  obtain ⟨_, h2⟩ := h2
  have c1 := h1.convert
  have c2 := h2.convert
  clear h1 h2
  go_enter Tryd.func40, Tryd.ntmps40
  go_wp2_with fail
  go_ret
  exact ⟨ret_bool (by first | rfl | (rw [Bool.eq_iff_iff, beq_iff_eq, decide_eq_true_eq])), rfl⟩

theorem eqF_cons {P : Program} {w : World} {d : Nat} {xs ys : Array Value} {f : Field} {fs : List Field} {a b : Int} (hn : f.name ≠ "_") (hp : P.plainKey f.type = true) (hu : P.underlying f.type = some (.int .i64))
    (hx : xs[f.offset]? = some (.int .i64 a)) (hy : ys[f.offset]? = some (.int .i64 b)) : (Op.eqFields (d + 1) xs ys (f :: fs)).run P w = if a = b then (Op.eqFields (d + 1) xs ys fs).run P w else .ok false w := by
  simp only [Op.eqFields, if_pos hn, Sem.run_bind, run_part_plain w hp hx, run_part_plain w hp hy, Result.andThen_ok, run_equalIn_int w d f.type _ _ a b hu]
  by_cases h : a = b
  · subst h; simp
  · have : (a == b) = false := by simpa using h
    simp [h]
theorem sih73 : Tryd.prog.stoodInHeld 73 = false := by kernel_rfl
theorem pk3 : Tryd.prog.plainKey 3 = true := by kernel_rfl
def nf (nm : String) (i : Nat) : Field := { name := nm, type := 3, offset := i, embedded := false, tag := "", pkgPath := "smartcard/filehead", byteOffset := 8 * i }
theorem f73 : Tryd.prog.fieldsOf 73 = #[nf "id" 0, nf "kind" 1, nf "short" 2, nf "size" 3, nf "length" 4, nf "records" 5, nf "state" 6] := by
  unfold Program.fieldsOf
  rw [Tryd.underlying73]
  rfl
set_option maxRecDepth 100000 in
theorem eq73_run (f g : Fl) (W : World) : Sem.run Tryd.prog (binOp .eql 73 (nmV f) (nmV g)) W = .ok (.bool (decide (f.nums = g.nums))) W := by
  obtain ⟨a, b, c, d, e, i, j, _, _⟩ := f
  obtain ⟨a', b', c', d', e', i', j', _, _⟩ := g
  unfold nmV Fl.nums
  simp only
  have u73 : Tryd.prog.underlying 73 = some (.struct (Tryd.prog.fieldsOf 73)) := by unfold Program.fieldsOf; rw [Tryd.underlying73]
  have h := run_equalIn_agg W 9999 73 #[.int .i64 a, .int .i64 b, .int .i64 c, .int .i64 d, .int .i64 e, .int .i64 i, .int .i64 j] #[.int .i64 a', .int .i64 b', .int .i64 c', .int .i64 d', .int .i64 e', .int .i64 i', .int .i64 j'] u73 sih73
  have e0 : ∀ (P : Program) (w : World) (n : Nat) (xs ys : Array Value), (Op.eqFields n xs ys []).run P w = .ok true w := fun _ _ _ _ _ => rfl
  rw [f73] at h
  have u3 := Tryd.underlying3
  have e2 := h.trans (eqF_cons (d := 9998) (a := a) (b := a') (by decide) pk3 u3 rfl rfl)
  rw [eqF_cons (d := 9998) (a := b) (b := b') (by decide) pk3 u3 rfl rfl, eqF_cons (d := 9998) (a := c) (b := c') (by decide) pk3 u3 rfl rfl, eqF_cons (d := 9998) (a := d) (b := d') (by decide) pk3 u3 rfl rfl, eqF_cons (d := 9998) (a := e) (b := e') (by decide) pk3 u3 rfl rfl, eqF_cons (d := 9998) (a := i) (b := i') (by decide) pk3 u3 rfl rfl, eqF_cons (d := 9998) (a := j) (b := j') (by decide) pk3 u3 rfl rfl, e0] at e2
  rw [run_eql_struct, e2]
  by_cases h1 : a = a'
  · by_cases h2 : b = b'
    · by_cases h3 : c = c'
      · by_cases h4 : d = d'
        · by_cases h5 : e = e'
          · by_cases h6 : i = i'
            · by_cases h7 : j = j'
              · simp [h1, h2, h3, h4, h5, h6, h7]
              · simp [h1, h2, h3, h4, h5, h6, h7]
            · simp [h1, h2, h3, h4, h5, h6]
          · simp [h1, h2, h3, h4, h5]
        · simp [h1, h2, h3, h4]
      · simp [h1, h2, h3]
    · simp [h1, h2]
  · simp [h1]
end Go.Proofs.YtkjcafhaenkpbaaDoor
