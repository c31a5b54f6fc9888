/-
  The plain function of the lengths, and that their parity tells who wins.
-/
import Derived.Test.YtlgogpphlnogoaaSteps
import Derived.Test.YtlgogpphlnogoaaWonRule
namespace Go.Proofs.Ytlgogpphlnogoaa

theorem foldl_inv {α β : Type} (f : β → α → β) (P : β → Prop) : ∀ (l : List α) (s : β), P s → (∀ s x, x ∈ l → P s → P (f s x)) → P (l.foldl f s)
  | [], _, h, _ => h
  | x :: r, s, h, hs => foldl_inv f P r (f s x) (hs s x (by simp) h) (fun s y hy => hs s y (by simp [hy]))

def lenStep (s : Int × Int) (v : Int) : Int × Int := (if v.tmod 2 = 0 ∧ (s.1 < 0 ∨ v < s.1) then v else s.1, max s.2 v)
def lenF (vs : List Int) : Int × Int := vs.foldl lenStep (-1, -1)
theorem lenF_snoc (vs : List Int) (v : Int) : lenF (vs ++ [v]) = lenStep (lenF vs) v := by simp [lenF]
def lenV (vs : List Int) : Int := if 0 ≤ (lenF vs).1 then 1 + (lenF vs).1 else 1 + (lenF vs).2
def lenW (vs : List Int) : Int := if 0 ≤ (lenF vs).1 then Go.RowKit.wrap64 (1 + (lenF vs).1) else Go.RowKit.wrap64 (1 + (lenF vs).2)

theorem lenF_bd {k : Nat} {vs : List Int} (h : ∀ v ∈ vs, 0 ≤ v ∧ v ≤ k) : -1 ≤ (lenF vs).1 ∧ (lenF vs).1 ≤ k ∧ -1 ≤ (lenF vs).2 ∧ (lenF vs).2 ≤ k := by
  refine foldl_inv lenStep (fun s => -1 ≤ s.1 ∧ s.1 ≤ k ∧ -1 ≤ s.2 ∧ s.2 ≤ k) vs (-1, -1) ⟨by omega, by omega, by omega, by omega⟩ ?_
  intro s v hv hs
  have := h v hv
  unfold lenStep
  dsimp only
  split <;> omega
theorem len_same (k : Nat) (vs : List Int) (hk : k ≤ 1000) (h : ∀ v ∈ vs, 0 ≤ v ∧ v ≤ k) : lenW vs = lenV vs ∧ 0 ≤ lenV vs ∧ lenV vs ≤ k + 1 := by
  have := lenF_bd h
  unfold lenW lenV
  split
  · exact ⟨by unfold Go.RowKit.wrap64; omega, by omega, by omega⟩
  · exact ⟨by unfold Go.RowKit.wrap64; omega, by omega, by omega⟩

theorem lenF_even : ∀ (vs : List Int) (s : Int × Int), (∀ v ∈ vs, 0 ≤ v) → (0 ≤ (vs.foldl lenStep s).1 ↔ 0 ≤ s.1 ∨ ∃ v ∈ vs, v.tmod 2 = 0)
  | [], s, _ => by simp
  | v :: r, s, h => by
    rw [List.foldl_cons, lenF_even r (lenStep s v) (fun x hx => h x (by simp [hx]))]
    have hv := h v (by simp)
    have h1 : 0 ≤ (lenStep s v).1 ↔ 0 ≤ s.1 ∨ v.tmod 2 = 0 := by
      unfold lenStep
      dsimp only
      split
      · rename_i hx
        exact ⟨fun _ => .inr hx.1, fun _ => hv⟩
      · rename_i hx
        constructor
        · exact fun h => .inl h
        · rintro (h | h)
          · exact h
          · by_cases hs : s.1 < 0
            · exact absurd ⟨h, .inl hs⟩ hx
            · omega
    rw [h1]
    simp only [List.mem_cons, exists_eq_or_imp]
    constructor
    · rintro ((h | h) | h)
      · exact .inl h
      · exact .inr (.inl h)
      · exact .inr (.inr h)
    · rintro (h | h | h)
      · exact .inl (.inl h)
      · exact .inl (.inr h)
      · exact .inr h

theorem lenV_parity {vs : List Int} (h : ∀ v ∈ vs, 0 ≤ v) : (lenV vs % 2 = 1) ↔ ∃ v ∈ vs, v.tmod 2 = 0 := by
  have he := lenF_even vs (-1, -1) h
  have hl : (lenF vs).1 = -1 ∨ (0 ≤ (lenF vs).1 ∧ (lenF vs).1 % 2 = 0) := by
    refine foldl_inv lenStep (fun s => s.1 = -1 ∨ (0 ≤ s.1 ∧ s.1 % 2 = 0)) vs (-1, -1) (.inl rfl) ?_
    intro s v hv hs
    have := h v hv
    unfold lenStep
    dsimp only
    split
    · rename_i hx
      right
      have h2 := hx.1
      rw [Int.tmod_eq_emod_of_nonneg this] at h2
      exact ⟨this, h2⟩
    · exact hs
  have he' : 0 ≤ (lenF vs).1 ↔ ∃ v ∈ vs, v.tmod 2 = 0 := by
    unfold lenF
    rw [he]
    simp
  rw [← he']
  unfold lenV
  split
  · rename_i h0
    constructor
    · exact fun _ => h0
    · intro _; omega
  · rename_i h0
    have hno : ¬ ∃ v ∈ vs, v.tmod 2 = 0 := by rw [← he']; exact h0
    have hg : (lenF vs).2 % 2 = 1 := by
      refine foldl_inv lenStep (fun s => s.2 % 2 = 1) vs (-1, -1) (by decide) ?_
      intro s v hv hs
      have hv0 := h v hv
      have hv1 : ¬ v.tmod 2 = 0 := fun e => hno ⟨v, hv, e⟩
      rw [Int.tmod_eq_emod_of_nonneg hv0] at hv1
      unfold lenStep
      dsimp only
      omega
    constructor
    · intro h1; omega
    · intro h1; exact absurd h1 h0

/-- What has been told of a place stays. -/
theorem stL_later {β : Type} {z : β} {R : List β → β} {xss : List (List Int)} {n k : Nat} (hk : k ≤ n) : ∀ (m : Nat) (hm : m ≤ n), k ≤ m → ∀ i, n - k ≤ i → stL z R xss (downs n m hm) i = stL z R xss (downs n k hk) i
  | 0, _, h, _, _ => by
    obtain rfl : k = 0 := by omega
    rfl
  | m + 1, hm, h, i, hi => by
    by_cases e : k = m + 1
    · subst e; rfl
    · rw [downs, stL_snoc]
      show upd _ (n - 1 - m) _ i = _
      unfold upd
      rw [if_neg (by omega)]
      exact stL_later hk m (by omega) (by omega) i hi

/-- The parity of the lengths tells who wins. -/
theorem parity {xss : List (List Int)} {n : Nat} (hn : n ≤ 1000) : ∀ (k : Nat) (h : k ≤ n) (i : Nat), stL false (B.wonV false) xss (downs n k h) i = decide (stL 0 lenV xss (downs n k h) i % 2 = 1)
  | 0, _, _ => rfl
  | k + 1, h, i => by
    have ih := parity (xss := xss) hn k (by omega)
    have hb := (stL_same (R1 := lenW) (R2 := lenV) (xss := xss) len_same hn k (by omega)).2
    rw [downs, stL_snoc, stL_snoc]
    show upd _ (n - 1 - k) _ i = decide (upd _ (n - 1 - k) _ i % 2 = 1)
    unfold upd
    split
    · obtain ⟨zs, hz⟩ : ∃ zs, zs = rowOf xss (n - 1 - k) := ⟨_, rfl⟩
      show B.wonV false (afterOf _ (rowOf xss (n - 1 - k))) = decide (lenV (afterOf _ (rowOf xss (n - 1 - k))) % 2 = 1)
      rw [← hz]
      have hp := lenV_parity (vs := afterOf (stL 0 lenV xss (downs n k (by omega))) zs) (by
        intro v hv
        simp only [afterOf, List.mem_map] at hv
        obtain ⟨q, _, rfl⟩ := hv
        exact (hb _).1)
      have h1 : ∀ (vs : List Bool), B.wonV false vs = decide (false ∈ vs) := by
        intro vs
        unfold B.wonV B.hasF
        split
        · rename_i e; subst e; rfl
        · rfl
      rw [h1]
      refine decide_eq_decide.2 (Iff.trans ?_ hp.symm)
      constructor
      · intro hf
        simp only [afterOf, List.mem_map] at hf
        obtain ⟨q, hq, he⟩ := hf
        refine ⟨_, List.mem_map.2 ⟨q, hq, rfl⟩, ?_⟩
        rw [ih] at he
        have h0 := (hb q.toNat).1
        rw [Int.tmod_eq_emod_of_nonneg h0]
        have := of_decide_eq_false he
        omega
      · rintro ⟨v, hv, he⟩
        simp only [afterOf, List.mem_map] at hv
        obtain ⟨q, hq, rfl⟩ := hv
        refine List.mem_map.2 ⟨q, hq, ?_⟩
        rw [ih]
        have h0 := (hb q.toNat).1
        rw [Int.tmod_eq_emod_of_nonneg h0] at he
        exact decide_eq_false (by omega)
    · exact ih i

/-- The model's own way to the length of a place: 'best' behind a part of its moves. -/
def bestStep (wf : Nat → Bool) (lst : Nat → Int) (wp : Bool) (b : Int) (q : Int) : Int :=
  if wp = true ∧ wf q.toNat = false ∧ (b < 0 ∨ lst q.toNat < b) then lst q.toNat else if wp = false ∧ b < lst q.toNat then lst q.toNat else b
def bestF (wf : Nat → Bool) (lst : Nat → Int) (wp : Bool) (zs : List Int) : Int := zs.foldl (bestStep wf lst wp) (-1)
theorem bestF_snoc (wf : Nat → Bool) (lst : Nat → Int) (wp : Bool) {zs : List Int} {j q : Nat} (h : zs[j]? = some (q : Int)) : bestF wf lst wp (zs.take (j + 1)) = bestStep wf lst wp (bestF wf lst wp (zs.take j)) q := by
  rw [List.take_add_one, h]
  simp [bestF]
theorem bestF_is (wf : Nat → Bool) (lst : Nat → Int) (wp : Bool) : ∀ (zs : List Int) (s : Int × Int), (∀ q ∈ zs, 0 ≤ lst q.toNat ∧ wf q.toNat = decide (lst q.toNat % 2 = 1)) →
    zs.foldl (bestStep wf lst wp) (if wp then s.1 else s.2) = if wp then ((afterOf lst zs).foldl lenStep s).1 else ((afterOf lst zs).foldl lenStep s).2
  | [], s, _ => rfl
  | q :: r, s, h => by
    obtain ⟨h0, h1⟩ := h q (by simp)
    have he : bestStep wf lst wp (if wp then s.1 else s.2) q = if wp then (lenStep s (lst q.toNat)).1 else (lenStep s (lst q.toNat)).2 := by
      unfold bestStep lenStep
      rw [h1]
      cases wp
      · simp only [Bool.false_eq_true, false_and, if_false, true_and]
        split <;> omega
      · rw [Int.tmod_eq_emod_of_nonneg h0]
        simp only [if_true, true_and, decide_eq_false_iff_not, Bool.true_eq_false, false_and, if_false]
        have : (¬ lst q.toNat % 2 = 1) ↔ lst q.toNat % 2 = 0 := by omega
        simp only [this]
    show (r.foldl (bestStep wf lst wp) (bestStep wf lst wp (if wp then s.1 else s.2) q)) = _
    rw [he]
    exact bestF_is wf lst wp r (lenStep s (lst q.toNat)) (fun x hx => h x (by simp [hx]))

/-- At a place whose moves are told: the model's best and the length. -/
theorem best_len {xss : List (List Int)} {n k : Nat} (hn : n ≤ 1000) (hk : k < n) {wf : Nat → Bool} (hw : ∀ i, wf i = stL false (B.wonV false) xss (downs n n (Nat.le_refl _)) i) {zs : List Int} (hz : rowOf xss (n - 1 - k) = zs) (hq : ∀ q ∈ zs, (n - 1 - k : Nat) < q) :
    bestF wf (stL 0 lenV xss (downs n k (by omega))) (wf (n - 1 - k)) zs + 1 = lenV (afterOf (stL 0 lenV xss (downs n k (by omega))) zs) := by
  have hb := (stL_same (R1 := lenW) (R2 := lenV) (xss := xss) len_same hn k (by omega)).2
  have hwq : ∀ q ∈ zs, 0 ≤ stL 0 lenV xss (downs n k (by omega)) q.toNat ∧ wf q.toNat = decide (stL 0 lenV xss (downs n k (by omega)) q.toNat % 2 = 1) := by
    intro q hq'
    have := hq q hq'
    refine ⟨(hb _).1, ?_⟩
    rw [hw, stL_later (k := k) (by omega) n (Nat.le_refl _) (by omega) q.toNat (by omega), parity hn]
  have hwp : wf (n - 1 - k) = decide (lenV (afterOf (stL 0 lenV xss (downs n k (by omega))) zs) % 2 = 1) := by
    rw [hw, stL_later (k := k + 1) (by omega) n (Nat.le_refl _) (by omega) (n - 1 - k) (by omega), parity hn, downs, stL_snoc]
    show decide (upd _ (n - 1 - k) _ (n - 1 - k) % 2 = 1) = _
    unfold upd
    rw [if_pos rfl]
    show decide (lenV (afterOf _ (rowOf xss (n - 1 - k))) % 2 = 1) = _
    rw [hz]
  have hp := lenV_parity (vs := afterOf (stL 0 lenV xss (downs n k (by omega))) zs) (by
    intro v hv
    simp only [afterOf, List.mem_map] at hv
    obtain ⟨q, _, rfl⟩ := hv
    exact (hb _).1)
  have hev := lenF_even (afterOf (stL 0 lenV xss (downs n k (by omega))) zs) (-1, -1) (by
    intro v hv
    simp only [afterOf, List.mem_map] at hv
    obtain ⟨q, _, rfl⟩ := hv
    exact (hb _).1)
  obtain ⟨st, hst⟩ : ∃ st, st = stL 0 lenV xss (downs n k (by omega)) := ⟨_, rfl⟩
  rw [← hst] at hwq hwp hp hev ⊢
  have hm := bestF_is wf st (wf (n - 1 - k)) zs (-1, -1) hwq
  have hm' : bestF wf st (wf (n - 1 - k)) zs = if wf (n - 1 - k) then (lenF (afterOf st zs)).1 else (lenF (afterOf st zs)).2 := by
    unfold bestF lenF
    rw [← hm]
    cases wf (n - 1 - k) <;> rfl
  rw [hm']
  have hev' : 0 ≤ (lenF (afterOf st zs)).1 ↔ ∃ v ∈ afterOf st zs, v.tmod 2 = 0 := by
    unfold lenF
    rw [hev]
    simp
  have hd : wf (n - 1 - k) = decide (0 ≤ (lenF (afterOf st zs)).1) := by
    rw [hwp]
    exact decide_eq_decide.2 (hp.trans hev'.symm)
  rw [hd]
  unfold lenV
  by_cases h0 : 0 ≤ (lenF (afterOf st zs)).1
  · rw [if_pos h0, decide_eq_true h0]
    show (lenF (afterOf st zs)).1 + 1 = _
    omega
  · rw [if_neg h0, decide_eq_false h0]
    show (lenF (afterOf st zs)).2 + 1 = _
    omega
end Go.Proofs.Ytlgogpphlnogoaa
