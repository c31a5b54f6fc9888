/-
  FleetList: rows that are appended, the post of l09Go.
-/
import Derived.Test.YtkekanllfpdeaabGp
import Derived.Deep.DeepCutAuto
import Derived.Deep.RegionHeld3
namespace Go.Proofs.Ytkekanllfpdeaab
open Go.RowKit
set_option linter.unusedVariables false

def GoPost (B : Nat) (r : List (List Int)) (W : World) (e : Ending) (w' : World) : Prop :=
  ∃ g c vs, e = .returned (.slice (some ⟨g, 0, none⟩) r.length c) ∧ RowsO B w' (.slice (some ⟨g, 0, none⟩) r.length c) vs r ∧ Below W.heap.size W w'
theorem add_form0 (b i : Nat) : (⟨b, 0, none⟩ : Addr).add i = ⟨b, i, none⟩ := by unfold Addr.add; split <;> simp_all
/-- What an append of rows leaves. -/
theorem RowsO.app {B : Nat} {w w7 : World} {v v2 v' : Value} {vs vs2 : List Value} {xss yss : List (List Int)} {N : Nat} (h : RowsO B w v vs xss) (h2 : RowsO N w v2 vs2 yss) (hN : ∀ x ∈ vs, ∀ g, x.ownBlock = some g → g < N) (hB : B ≤ N)
    (hown : w7.ownsRow B 22 1 v' (xss.length + yss.length) (vs ++ vs2)) (hg : w.grownBy w7 v.ownBlock) : RowsO B w7 v' (vs ++ vs2) (xss ++ yss) := by
  refine ⟨h.l.app (h2.l.base hB hB) hown hg, List.pairwise_append.2 ⟨h.nod, h2.nod, fun x hx y hy g hxg hyg => ?_⟩⟩
  have h1 := hN x hx g hxg
  obtain ⟨i, hi⟩ := List.mem_iff_getElem?.1 hy
  have hl := (List.getElem?_eq_some_iff.1 hi).1
  have hz : yss[i]? = some (yss[i]'(by rw [← h2.l.len]; exact hl)) := List.getElem?_eq_getElem _
  have h3 := ((h2.l.rows i y _ hi hz).lt g hyg).1
  omega
theorem rows_news {B A n c g : Nat} {w : World} {vs : List Value} {xss : List (List Int)} (h : ListO A B w (.slice (some ⟨g, 0, none⟩) n c) vs xss) (hn : n = xss.length) : ∀ j u, vs[j]? = some u → w.cell? ((⟨g, 0, none⟩ : Addr).add j) = some u := by
  intro j u hu
  have hl := (List.getElem?_eq_some_iff.1 hu).1
  have h1 := h.own
  rw [← hn] at h1
  rw [add_form0]
  have h2 := h1.cellAt j (by rw [hn, ← h.len]; omega)
  rw [h2, hu]
theorem rows_ones {B A : Nat} {w : World} {v : Value} {vs : List Value} {xss : List (List Int)} (h : ListO A B w v vs xss) : ∀ u ∈ vs, u.oneCell' = true := by
  intro u hu
  obtain ⟨i, hi⟩ := List.mem_iff_getElem?.1 hu
  have hl := (List.getElem?_eq_some_iff.1 hi).1
  have hz : xss[i]? = some (xss[i]'(by rw [← h.len]; exact hl)) := List.getElem?_eq_getElem _
  obtain ⟨a, c, rfl⟩ := own_form (h.rows i u _ hi hz)
  rfl
/-- An append at a step of a region that draws its order; nothing may be appended, too. -/
theorem step_append_own {P : Program} {w : World} {ops : Array Oper} {o : Oper} {a : Act} {K : Act → World → Prop} {Q : Exit → Act → World → Prop} {E : Prop} (hgd : o.guard = none) (s x : Operand) (t : TypeId)
    (ho : o.op = .call { callee := .builtin .append, args := #[s, x], argTypes := #[t, t] })
    (base : Nat) (e : TypeId) (i : TypeInfo) (z : Value) (size bytes : Nat) (ht : P.underlying t = some (.slice e)) (hi : P.info? e = some i) (hz : i.zero = some z)
    (hsize : i.size = size) (hby : i.bytes = bytes) (hzs : z.cells.size = size) (hsz : 0 < size)
    (v : Value) (n : Nat) (xs : List Value) (hs : a.eval s = v) (hown : w.ownsRow base e size v n xs)
    (ad : Addr) (m c : Nat) (news : List Value) (hx : a.eval x = .slice (some ad) m c) (hl : news.length = m * size) (hnews : ∀ j u, news[j]? = some u → w.cell? (ad.add j) = some u) (h1 : ∀ u ∈ news, u.oneCell' = true)
    (h63 : n + m ≤ maxLen) (hbytes : (n + m) * bytes ≤ 140737488355328) (hbase : base ≤ w.heap.size)
    (h : ∀ v' w', w'.ownsRow base e size v' (n + m) (xs ++ news) → w.grownBy w' v.ownBlock → (v' = .slice none 0 0 ↔ v = .slice none 0 0 ∧ m = 0) → K (a.put o.dst v') w') :
    if Region.wanted o (yielded ops a.tmps) = true then Oper.wp P o a w K Q else E := by
  have hw : Region.wanted o (yielded ops a.tmps) = true := by simp [Region.wanted, hgd]
  rw [if_pos hw]
  exact wp_append_own w s x t ho base e i z size bytes ht hi hz hsize hby hzs hsz v n xs hs hown ad m c news hx hl hnews h1 h63 hbytes hbase h
theorem okNext_pos {cs f : List Int} {z n m y : Int} {j : Nat} (hf : f.length = j + 1) (hn : cs[f.length]? = some n) (hm : cs[j]? = some m) (hy : f[j]? = some y) : okNext cs f z = (decide (andI z (setL f) = 0) && !(decide (n = m) && decide (z < y))) := by
  unfold okNext
  rw [List.getD_eq_getElem?_getD, hn, List.getD_eq_getElem?_getD, List.getD_eq_getElem?_getD, hf, Nat.add_sub_cancel, hm, hy, decide_eq_true (show 0 < j + 1 by omega)]
  simp

end Go.Proofs.Ytkekanllfpdeaab
