/-
  Col and snort: rows of the call's own beside a block that turns; slices.Contains over bools; what wonNormally does.
-/
import Derived.Test.YtdimmlpnfghndaaOw
import Derived.Test.YtdimmlpnfghndaaPm
import Derived.Test.YtdimmlpnfghndaaFk
namespace Go.Proofs.Ytdimmlpnfghndaa
open Go.RowKit
set_option linter.unusedVariables false

theorem infoBool : (Try.prog.info? 4).map (fun i => (i.zero, i.size, i.bytes)) = some (some (.bool false), 1, 1) := by kernel_rfl

/-- A row of the call's own under way, of cells of type E, beside block n that turns. -/
structure OwnV (E : TypeId) (B n : Nat) (W0 w : World) (v : Value) (vs : List Value) : Prop where
  own : w.ownsRow B E 1 v vs.length vs
  old : ButB B n W0 w
  size : B ≤ w.heap.size
variable {E : TypeId}
theorem OwnV.keep {B n : Nat} {W0 w w' : World} {v : Value} {vs : List Value} (h : OwnV E B n W0 w v vs) (hn : n < B) (hb : But n w w') : OwnV E B n W0 w' v vs := by
  refine ⟨?_, h.old.trans (hb.butB h.size), Nat.le_trans h.size hb.size⟩
  refine ⟨h.own.1, ?_⟩
  rcases h.own.2 with h2 | ⟨g, cap, cur, hv, hg, hh, r⟩
  · exact .inl h2
  · exact .inr ⟨g, cap, cur, hv, hg, (hb.block g (Array.getElem?_eq_some_iff.1 hh).1 (by omega)).trans hh, r⟩
theorem OwnV.snoc {B n : Nat} {W0 w2 w3 : World} {v v' : Value} {vs : List Value} {z : Value} {t : TypeId} (h : OwnV E B n W0 w2 v vs) (hown : w3.ownsRow B E 1 v' (vs.length + 1) (vs ++ [z]))
    (hg : (w2.alloc (.cells #[z] t)).grownBy w3 v.ownBlock) : OwnV E B n W0 w3 v' (vs ++ [z]) := by
  have hs := h.size
  refine ⟨by simpa using hown, (h.old.alloc hs _).grown hg (by simp; omega) (fun j hj => ?_), ?_⟩
  · have := (h.own.alloc (.cells #[z] t)).lt j hj
    omega
  · have := hg.size
    simp at *
    omega
theorem OwnV.nil {B n : Nat} {W0 w : World} (h : ButB B n W0 w) (hs : B ≤ w.heap.size) : OwnV E B n W0 w (.slice none 0 0) [] := ⟨World.ownsRow_nil _ _ _ _, h, hs⟩
theorem OwnV.blockOf {B n : Nat} {W0 w w' : World} {v : Value} {vs : List Value} {o : Obj} (h : OwnV E B n W0 w v vs) {k : Nat} (hn : k < B) (hl : k < w.heap.size) (hg : (w.alloc o).grownBy w' v.ownBlock) : w'.heap[k]? = w.heap[k]? := by
  refine (hg.block k (by simp; omega) (fun hbe => ?_)).trans (Below.heap_alloc _ _ _ hl)
  rcases h.own.2 with ⟨hv, _⟩ | ⟨g', cap, cur, hv, hgg, _⟩
  · rw [hv] at hbe; simp [Value.ownBlock] at hbe
  · rw [hv] at hbe; simp [Value.ownBlock] at hbe; omega

theorem drop_boolV {bs : List Bool} {k : Nat} {x : Bool} (h : bs[k]? = some x) : bs.drop k = x :: bs.drop (k + 1) := drop_of_get h
/-- The first place of a truth value. -/
def ixBo : List Bool → Bool → Nat → Int
  | [], _, _ => -1
  | y :: r, x, k => if x = y then k else ixBo r x (k + 1)
theorem ixBo_step {zs : List Bool} {k : Nat} {x y : Bool} (h : zs[k]? = some y) : ixBo (zs.drop k) x k = if x = y then (k : Int) else ixBo (zs.drop (k + 1)) x (k + 1) := by
  rw [drop_of_get h]
  rfl
theorem ixBo_mem (x : Bool) : ∀ (zs : List Bool) (k : Nat), (0 ≤ ixBo zs x k) ↔ x ∈ zs
  | [], k => by simp [ixBo]
  | y :: r, k => by
    rw [ixBo]
    by_cases h : x = y
    · rw [if_pos h, h]; simp
    · rw [if_neg h, ixBo_mem x r (k + 1)]
      simp [h]
set_option maxRecDepth 100000 in
set_option maxHeartbeats 1000000 in
theorem indexBo_any (a : Option Addr) (c : Nat) (zs : List Bool) (x : Bool) (W : World) (ha : BoolsAt W a zs) (hl : zs.length ≤ 1048576) :
    Calls Try.prog 81 #[.slice a zs.length c, .bool x] W (RetB (.int .i64 (ixBo zs x 0)) W) := by
  obtain ⟨n, hn⟩ : ∃ n, n = zs.length := ⟨_, rfl⟩
  obtain ⟨r, hr⟩ : ∃ r, r = ixBo zs x 0 := ⟨_, rfl⟩
  rw [← hn] at hl ⊢
  rw [← hr]
  have HN := hide hn
  have HR := hide hr
  have HA := hide ha
  clear hn hr ha
  go_enter Try.func81, Try.ntmps81
  go_wp2
  go_loop [8] (fun i => ∃ k : Nat, k ≤ n ∧ i = .int .i64 k ∧ Hid (r = ixBo (zs.drop k) x k)) (fun i => n - (intOf i).toNat)
  case atStart => exact ⟨0, Nat.zero_le _, rfl, hide (by rw [List.drop_zero]; exact HR.out)⟩
  case round =>
    obtain ⟨k, hk, rfl, hrk⟩ := hrel
    by_cases hlt : k < n
    · obtain ⟨b, off, y, rfl, cy, hy⟩ := HA.out.one (k := k) (by rw [← HN.out]; exact hlt)
      have hstep := hide (ixBo_step (x := x) hy.out)
      by_cases hxy : x = y
      · have hf : Hid (r = (k : Int)) := hide (by rw [hrk.out, hstep.out, if_pos hxy])
        subst hxy
        have heq : (x == x) = true := by simp
        go_wp2
        go_ret
        exact ⟨by rw [hf.out]; rfl, Below.refl _ _⟩
      · have hne : (x == y) = false := by simpa using hxy
        have hf : Hid (r = ixBo (zs.drop (k + 1)) x (k + 1)) := hide (by rw [hrk.out, hstep.out, if_neg hxy])
        clear hxy
        go_wp2
        go_round
        case rel => exact ⟨k + 1, by omega, by go_num, hf⟩
        case measure => simp [intOf]; omega
    · obtain rfl : k = n := by omega
      have hf : Hid (r = -1) := hide (by rw [hrk.out, HN.out, List.drop_length]; rfl)
      go_wp2
      go_ret
      exact ⟨by rw [hf.out]; rfl, Below.refl _ _⟩
set_option maxHeartbeats 400000 in
theorem containsBo_any (a : Option Addr) (c : Nat) (zs : List Bool) (x : Bool) (W : World) (ha : BoolsAt W a zs) (hl : zs.length ≤ 1048576) :
    Calls Try.prog 78 #[.slice a zs.length c, .bool x] W (RetB (.bool (decide (x ∈ zs))) W) := by
  have hfin : Hid (decide (x ∈ zs) = decide (0 ≤ ixBo zs x 0)) := hide (decide_eq_decide.2 (ixBo_mem x zs 0).symm)
  have HA := hide ha
  clear ha
  go_enter Try.func78, Try.ntmps78
  go_wp2_with fail
  refine (indexBo_any _ _ zs x _ HA.out hl).mono ?_
  rintro e w1 ⟨rfl, hb1⟩
  have hB1 := hide hb1
  clear hb1
  go_wp2_with fail
  go_ret
  exact ⟨ret_bool (by rw [hfin.out]), hB1.out⟩
/-- Some value is false. -/
def ruleW (bs : List Bool) : Bool := decide (false ∈ bs)
set_option maxHeartbeats 400000 in
theorem wonNormally_any (a : Option Addr) (c : Nat) (bs : List Bool) (W : World) (ha : BoolsAt W a bs) (hl : bs.length ≤ 8) :
    Calls Try.prog 62 #[.slice a bs.length c] W (RetB (.bool (ruleW bs)) W) := by
  have HA := hide ha
  have hl' : bs.length ≤ 1048576 := by omega
  obtain ⟨r, hr⟩ : ∃ r, r = ruleW bs := ⟨_, rfl⟩
  have HR : Hid (decide (false ∈ bs) = r) := hide (by rw [hr]; rfl)
  rw [← hr]
  clear ha hr
  go_enter Try.func62, Try.ntmps62
  have hB0 := hide (Below.refl W.heap.size W)
  go_wp2_with fail
  refine (containsBo_any _ _ bs false _ HA.out hl').mono ?_
  rw [HR.out]
  rintro e w1 ⟨rfl, hb1⟩
  have hB1 := hide (Below.trans' hB0.out hb1)
  clear hb1
  go_wp2_with fail
  go_ret
  exact ⟨rfl, hB1.out⟩
theorem ruleW_map {α : Type} (l : List α) (f : α → Bool) : ruleW (l.map f) = l.any fun x => !f x := by
  unfold ruleW
  induction l with
  | nil => simp
  | cons a r ih =>
    cases h : f a
    · simp [h]
    · simp only [List.map_cons, h, List.mem_cons, Bool.false_eq_true, false_or, List.any_cons, Bool.not_true, Bool.false_or]
      simpa using ih
end Go.Proofs.Ytdimmlpnfghndaa
