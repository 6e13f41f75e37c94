/-
  The program's search for the first safe list as mathematics: it finds what the specification's search finds. No program text.
-/
import Derived.Test.YteahjnobnbafiaaDoorCdm
namespace Go.Proofs.YteahjnobnbafiaaDoor

def clshD (d : Dl) (x y : Int) : Bool := decide (d.a - d.c ≤ (pop (andI x y) : Int))
/-- no two hands clash: each with those behind it -/
def pairP (d : Dl) : List Int → Bool
  | [] => true
  | h :: r => !(r.any (clshD d h)) && pairP d r
def hidesP (d : Dl) (l : List Int) : Bool := (handsN d.n d.c.toNat).all (hiddenR l (2 ^ d.n - 1))
def fitP (d : Dl) (h : Int) (w : List Int) : List Int := w.filter (fun x => !clshD d h x)
/-- the program's search -/
def goC (d : Dl) (next : List Int → List Int → Option (List Int)) (b : List Int) : List Int → Option (List Int)
  | [] => none
  | a :: r => match next (b ++ [a]) (fitP d a r) with
    | some o => some o
    | none => goC d next b r
def complS (d : Dl) : Nat → List Int → List Int → Option (List Int)
  | 0, b, _ => if hidesP d b then some b else none
  | k + 1, b, w => goC d (complS d k) b w
/-- the lists of k elements of a list, in its order -/
def combsL : Nat → List Int → List (List Int)
  | 0, _ => [[]]
  | _ + 1, [] => []
  | k + 1, a :: r => (combsL k r).map (a :: ·) ++ combsL (k + 1) r
/-- an element put into its place -/
def insL (x : Int) : List Int → List Int
  | [] => [x]
  | a :: r => if x < a then x :: a :: r else a :: insL x r

theorem combs_zero (l : List Int) : combsL 0 l = [[]] := by cases l <;> rfl
theorem combs_sub : ∀ {k : Nat} {l M : List Int}, M ∈ combsL k l → M.Sublist l ∧ M.length = k
  | 0, l, M, h => by rw [combs_zero, List.mem_singleton] at h; subst h; exact ⟨List.nil_sublist _, rfl⟩
  | k + 1, [], M, h => by cases h
  | k + 1, a :: r, M, h => by
    rcases List.mem_append.1 (show M ∈ (combsL k r).map (a :: ·) ++ combsL (k + 1) r from h) with h | h
    · obtain ⟨M', h', rfl⟩ := List.mem_map.1 h
      have := combs_sub h'
      exact ⟨this.1.cons_cons _, by simp [this.2]⟩
    · have := combs_sub h
      exact ⟨this.1.cons _, this.2⟩
theorem find_append {α} (p : α → Bool) (a b : List α) : (a ++ b).find? p = (a.find? p).or (b.find? p) := by
  induction a with
  | nil => rfl
  | cons x a ih => rw [List.cons_append, List.find?_cons, List.find?_cons]; cases p x <;> simp [ih]
theorem find_map {α β} (f : α → β) (p : β → Bool) (a : List α) : (a.map f).find? p = (a.find? (fun x => p (f x))).map f := by
  induction a with
  | nil => rfl
  | cons x a ih => rw [List.map_cons, List.find?_cons, List.find?_cons]; cases p (f x) <;> simp [ih]
theorem find_congr {α} {p q : α → Bool} {a : List α} (h : ∀ x ∈ a, p x = q x) : a.find? p = a.find? q := by
  induction a with
  | nil => rfl
  | cons x a ih =>
    rw [List.find?_cons, List.find?_cons, h x (List.mem_cons_self ..), ih (fun y hy => h y (List.mem_cons_of_mem _ hy))]
theorem find_filter {α} (p q : α → Bool) (a : List α) : (a.filter q).find? p = a.find? (fun x => q x && p x) := by
  induction a with
  | nil => rfl
  | cons x a ih =>
    rw [List.filter_cons, List.find?_cons]
    cases hq : q x
    · simp [ih]
    · simp only [Bool.true_and, if_true, List.find?_cons]; rw [ih]
theorem find_none {α} {p : α → Bool} {a : List α} (h : ∀ x ∈ a, p x = false) : a.find? p = none := by
  rw [List.find?_eq_none]; intro x hx; rw [h x hx]; simp
/-- lists made of a filtered list -/
theorem combs_filter (q : Int → Bool) : ∀ (k : Nat) (l : List Int), combsL k (l.filter q) = (combsL k l).filter (fun M => M.all q)
  | 0, l => by rw [combs_zero, combs_zero]; rfl
  | k + 1, [] => rfl
  | k + 1, a :: r => by
    rw [List.filter_cons]
    show _ = ((combsL k r).map (a :: ·) ++ combsL (k + 1) r).filter _
    rw [List.filter_append, ← combs_filter q (k + 1) r, List.filter_map]
    cases hq : q a
    · rw [if_neg (by simp)]
      have : ((combsL k r).filter ((fun M => M.all q) ∘ (a :: ·))) = [] := by
        rw [List.filter_eq_nil_iff]; intro M _; simp [Function.comp, hq]
      rw [this]; rfl
    · rw [if_pos rfl]
      show (combsL k (r.filter q)).map _ ++ _ = _
      rw [combs_filter q k r]
      congr 2
      apply List.filter_congr
      intro M _; simp [Function.comp, hq]
/-- the program's search finds the first -/
theorem compl_find (d : Dl) : ∀ (k : Nat) (b w : List Int), complS d k b w = ((combsL k w).find? (fun M => pairP d M && hidesP d (b ++ M))).map (b ++ ·)
  | 0, b, w => by
    rw [combs_zero]
    show (if hidesP d b then some b else none) = _
    rw [List.find?_cons]
    simp only [List.append_nil, List.find?_nil, pairP, Bool.true_and]
    cases hidesP d b <;> simp
  | k + 1, b, w => by
    show goC d (complS d k) b w = _
    induction w with
    | nil => rfl
    | cons a r ih =>
      unfold goC
      rw [ih, compl_find d k]
      show _ = (((combsL k r).map (a :: ·) ++ combsL (k + 1) r).find? _).map _
      rw [find_append, find_map]
      unfold fitP
      rw [combs_filter, find_filter]
      have e : (combsL k r).find? (fun x => (x.all fun x => !clshD d a x) && (pairP d x && hidesP d (b ++ [a] ++ x))) = (combsL k r).find? (fun x => pairP d (a :: x) && hidesP d (b ++ a :: x)) := by
        apply find_congr
        intro M _
        have h1 : (M.all fun x => !clshD d a x) = !(M.any (clshD d a)) := by
          rw [List.not_any_eq_all_not]
        rw [h1, List.append_assoc]
        show _ = (!(M.any (clshD d a)) && pairP d M && _)
        rw [Bool.and_assoc]; rfl
      rw [e]
      cases (combsL k r).find? (fun x => pairP d (a :: x) && hidesP d (b ++ a :: x)) with
      | none => simp
      | some M => simp
theorem and_symm (x y : Int) : andI x y = andI y x := Nat.and_comm _ _
theorem clash_symm (d : Dl) (x y : Int) : clshD d x y = clshD d y x := by unfold clshD; rw [and_symm]
theorem hasI_mem {l : List Int} {x : Int} : hasI l x = true ↔ x ∈ l := by
  unfold hasI; rw [List.any_eq_true]
  constructor
  · rintro ⟨y, hy, e⟩; rw [beq_iff_eq] at e; exact e ▸ hy
  · exact fun h => ⟨x, h, beq_self_eq_true x⟩
theorem pair_append (d : Dl) : ∀ (a b : List Int), pairP d (a ++ b) = ((pairP d a && a.all (fun x => b.all (fun y => !clshD d x y))) && pairP d b)
  | [], b => by simp [pairP]
  | h :: r, b => by
    show (!((r ++ b).any (clshD d h)) && pairP d (r ++ b)) = _
    rw [pair_append d r b, List.any_append, List.all_cons]
    have e : (b.all fun y => !clshD d h y) = !(b.any (clshD d h)) := by rw [List.not_any_eq_all_not]
    rw [e]
    show _ = ((!(r.any (clshD d h)) && pairP d r) && _ && _)
    cases r.any (clshD d h) <;> cases b.any (clshD d h) <;> cases pairP d r <;> simp
theorem tell_pair (d : Dl) : ∀ (l pre : List Int), tellL (d.a - d.c) pre l = (l.all (fun h => pre.all (fun x => !clshD d x h)) && pairP d l)
  | [], _ => rfl
  | h :: r, pre => by
    unfold tellL
    rw [tell_pair d r (pre ++ [h]), List.all_cons]
    have e1 : (pre.all fun x => decide ((pop (andI h x) : Int) < d.a - d.c)) = pre.all (fun x => !clshD d x h) := by
      congr 1; funext x; unfold clshD; rw [and_symm x h]
      by_cases hx : (pop (andI h x) : Int) < d.a - d.c
      · rw [decide_eq_true hx, decide_eq_false (by omega)]; rfl
      · rw [decide_eq_false hx, decide_eq_true (by omega)]; rfl
    rw [e1]
    have e2 : (r.all fun y => (pre ++ [h]).all fun x => !clshD d x y) = ((r.all fun y => pre.all fun x => !clshD d x y) && !(r.any (clshD d h))) := by
      rw [List.not_any_eq_all_not]
      induction r with
      | nil => rfl
      | cons y r ih =>
        rw [List.all_cons, List.all_cons, List.all_cons, ih, List.all_append]
        simp only [List.all_cons, List.all_nil, Bool.and_true]
        cases (pre.all fun x => !clshD d x y) <;> cases clshD d h y <;> cases (r.all fun y => pre.all fun x => !clshD d x y) <;> simp
    rw [e2]
    show _ = (_ && (!(r.any (clshD d h)) && pairP d r))
    cases (pre.all fun x => !clshD d x h) <;> cases (r.all fun y => pre.all fun x => !clshD d x y) <;> simp
theorem tell_eq (d : Dl) (l : List Int) : tellL (d.a - d.c) [] l = pairP d l := by
  rw [tell_pair]
  have : (l.all fun h => ([] : List Int).all fun x => !clshD d x h) = true := by rw [List.all_eq_true]; intro _ _; rfl
  rw [this]; rfl
theorem handsTo_mem {k : Nat} : ∀ {m : Nat} {x : Int}, x ∈ handsTo k m → 0 ≤ x ∧ x < m ∧ pop x.toNat = k
  | 0, _, h => by cases h
  | m + 1, x, h => by
    rcases List.mem_append.1 (show x ∈ handsTo k m ++ _ from h) with h | h
    · have := handsTo_mem h; omega
    · split at h
      · rename_i hp; rw [List.mem_singleton] at h; subst h; exact ⟨by omega, by omega, by simpa using hp⟩
      · cases h
theorem handsTo_asc (k : Nat) : ∀ m, (handsTo k m).Pairwise (· < ·)
  | 0 => List.Pairwise.nil
  | m + 1 => by
    show (handsTo k m ++ _).Pairwise _
    rw [List.pairwise_append]
    refine ⟨handsTo_asc k m, ?_, ?_⟩
    · split
      · exact List.pairwise_singleton _ _
      · exact List.Pairwise.nil
    · intro x hx y hy
      have := handsTo_mem hx
      split at hy
      · rw [List.mem_singleton] at hy; omega
      · cases hy
theorem hands_asc (d : Dl) : (handsR d).Pairwise (· < ·) := by
  unfold handsR; split
  · exact handsTo_asc _ _
  · exact List.Pairwise.nil
theorem annL_asc {all : List Int} : ∀ {l : List Int} {p : Option Int}, (∀ x ∈ l, x ∈ all) → l.Pairwise (· < ·) → (∀ q, p = some q → ∀ x ∈ l, q < x) → annL all p l = true
  | [], _, _, _, _ => by unfold annL; rfl
  | h :: r, p, hm, ha, hp => by
    unfold annL
    rw [hasI_mem.2 (hm h (List.mem_cons_self ..)), annL_asc (fun x hx => hm x (List.mem_cons_of_mem _ hx)) ha.of_cons (fun q e x hx => by cases e; exact List.rel_of_pairwise_cons ha hx)]
    cases p with
    | none => rfl
    | some q => simp only [Bool.true_and, Bool.and_true, decide_eq_true_eq]; exact hp q rfl h (List.mem_cons_self ..)
theorem ann_yes {d : Dl} {l : List Int} (hd : dealR d = true) (hl : l ≠ []) (hm : ∀ x ∈ l, x ∈ handsR d) (ha : l.Pairwise (· < ·)) : annR d l = true := by
  unfold annR
  rw [hd, annL_asc hm ha (fun q e => by cases e)]
  cases l with
  | nil => exact absurd rfl hl
  | cons _ _ => rfl
theorem srch_find {d : Dl} {hand : Int} (hd : dealR d = true) : ∀ (k : Nat) (r l : List Int), (l ++ r).Pairwise (· < ·) → (∀ x ∈ l ++ r, x ∈ handsR d) → pairP d l = true → (k ≠ 0 ∨ l ≠ []) →
    srchS hand (tellR d) (hidesR d) k r l = ((combsL k r).find? (fun M => hasI (l ++ M) hand && (pairP d (l ++ M) && hidesP d (l ++ M)))).map (l ++ ·)
  | 0, r, l, ha, hm, hp, hk => by
    have hl : l ≠ [] := by rcases hk with h | h; exact absurd rfl h; exact h
    rw [combs_zero]
    show (if hasI l hand && hidesR d l then some l else none) = _
    have e : hidesR d l = hidesP d l := by
      unfold hidesR
      rw [ann_yes hd hl (fun x hx => hm x (List.mem_append_left _ hx)) (List.pairwise_append.1 ha).1]; rfl
    rw [e, List.find?_cons]
    simp only [List.append_nil, List.find?_nil, hp, Bool.true_and]
    cases (hasI l hand && hidesP d l) <;> simp
  | k + 1, r, l, ha, hm, hp, _ => by
    show goS hand (tellR d) (srchS hand (tellR d) (hidesR d) k) r l = _
    induction r with
    | nil => rfl
    | cons a r ih =>
      have ha' : (l ++ [a] ++ r).Pairwise (· < ·) := by rw [List.append_assoc]; exact ha
      have hm' : ∀ x ∈ l ++ [a] ++ r, x ∈ handsR d := by rw [List.append_assoc]; exact hm
      have har : (l ++ r).Pairwise (· < ·) := ha.sublist (List.Sublist.append (List.Sublist.refl _) (List.sublist_cons_self _ _))
      have hmr : ∀ x ∈ l ++ r, x ∈ handsR d := fun x hx => hm x (by
        rcases List.mem_append.1 hx with h | h
        · exact List.mem_append_left _ h
        · exact List.mem_append_right _ (List.mem_cons_of_mem _ h))
      have ht : tellR d (l ++ [a]) = pairP d (l ++ [a]) := by
        unfold tellR
        rw [ann_yes hd (by simp) (fun x hx => hm' x (List.mem_append_left _ hx)) (List.pairwise_append.1 ha').1, tell_eq]; rfl
      unfold goS
      rw [ih har hmr, ht]
      show _ = (((combsL k r).map (a :: ·) ++ combsL (k + 1) r).find? _).map _
      rw [find_append, find_map]
      by_cases hc : ((decide (hand < a) && !hasI l hand) || !pairP d (l ++ [a])) = true
      · rw [if_pos hc]
        have hn : (combsL k r).find? (fun x => hasI (l ++ a :: x) hand && (pairP d (l ++ a :: x) && hidesP d (l ++ a :: x))) = none := by
          apply find_none
          intro M hM
          rw [Bool.or_eq_true] at hc
          rcases hc with hc | hc
          · simp only [Bool.and_eq_true, decide_eq_true_eq, Bool.not_eq_true'] at hc
            have : hasI (l ++ a :: M) hand = false := by
              rw [Bool.eq_false_iff]; intro h
              rw [hasI_mem] at h
              rcases List.mem_append.1 h with h | h
              · rw [← hasI_mem, hc.2] at h; cases h
              · rcases List.mem_cons.1 h with h | h
                · omega
                · have h2 : hand ∈ r := (combs_sub hM).1.subset h
                  have := List.rel_of_pairwise_cons (List.pairwise_append.1 ha).2.1 h2
                  omega
            rw [this]; rfl
          · have : pairP d (l ++ a :: M) = false := by
              rw [show l ++ a :: M = (l ++ [a]) ++ M by simp, pair_append]
              rw [Bool.not_eq_true'] at hc
              rw [hc]; rfl
            rw [this]; simp
        rw [hn]; simp
      · rw [if_neg hc]
        have hpa : pairP d (l ++ [a]) = true := by
          simp only [Bool.or_eq_true, Bool.not_eq_true', not_or] at hc
          simpa using hc.2
        rw [srch_find hd k r (l ++ [a]) ha' hm' hpa (Or.inr (by simp))]
        simp only [List.append_assoc, List.singleton_append]
        cases (combsL k r).find? (fun x => hasI (l ++ a :: x) hand && (pairP d (l ++ a :: x) && hidesP d (l ++ a :: x))) with
        | none => simp
        | some M => simp
/-- the lists with an element, from those without it -/
theorem combs_ins {x : Int} : ∀ {l : List Int}, l.Pairwise (· < ·) → x ∈ l → ∀ k, (combsL (k + 1) l).filter (fun M => hasI M x) = (combsL k (l.filter (fun y => !(y == x)))).map (insL x)
  | [], _, h, _ => by cases h
  | a :: r, ha, hx, k => by
    have hlt := fun {y} (hy : y ∈ r) => List.rel_of_pairwise_cons ha hy
    show ((combsL k r).map (a :: ·) ++ combsL (k + 1) r).filter _ = _
    rw [List.filter_append, List.filter_map, List.filter_cons]
    by_cases e : a = x
    · subst e
      rw [if_neg (by simp)]
      have e1 : (combsL k r).filter ((fun M => hasI M a) ∘ (a :: ·)) = combsL k r := by
        rw [List.filter_eq_self]; intro M _; simp [Function.comp, hasI]
      have e2 : (combsL (k + 1) r).filter (fun M => hasI M a) = [] := by
        rw [List.filter_eq_nil_iff]; intro M hM h
        rw [hasI_mem] at h
        have := hlt ((combs_sub hM).1.subset h); omega
      have e3 : r.filter (fun y => !(y == a)) = r := by
        rw [List.filter_eq_self]; intro y hy; have := hlt hy; simp; omega
      rw [e1, e2, e3, List.append_nil]
      apply List.map_congr_left
      intro M hM
      cases M with
      | nil => rfl
      | cons y M =>
        have hy : y ∈ r := (combs_sub hM).1.subset (List.mem_cons_self ..)
        show _ = if a < y then _ else _
        rw [if_pos (hlt hy)]
    · have hxr : x ∈ r := by rcases List.mem_cons.1 hx with h | h; exact absurd h.symm e; exact h
      have hax : a < x := hlt hxr
      rw [if_pos (by simp [e]), combs_ins ha.of_cons hxr k]
      have e1 : (combsL k r).filter ((fun M => hasI M x) ∘ (a :: ·)) = (combsL k r).filter (fun M => hasI M x) := by
        apply List.filter_congr; intro M _; simp [Function.comp, hasI, e]
      rw [e1]
      cases k with
      | zero =>
        rw [combs_zero, combs_zero, combs_zero]
        have : ([[]] : List (List Int)).filter (fun M => hasI M x) = [] := rfl
        rw [this]; rfl
      | succ k =>
        rw [combs_ins ha.of_cons hxr k]
        show _ = ((combsL k _).map (a :: ·) ++ combsL (k + 1) _).map _
        rw [List.map_append, List.map_map, List.map_map]
        congr 1
        apply List.map_congr_left
        intro M _
        show a :: insL x M = if x < a then _ else _
        rw [if_neg (by omega)]
theorem ins_perm (x : Int) : ∀ l : List Int, (insL x l).Perm (x :: l)
  | [] => List.Perm.refl _
  | a :: r => by
    show (if x < a then x :: a :: r else a :: insL x r).Perm _
    split
    · exact List.Perm.refl _
    · exact ((ins_perm x r).cons a).trans (List.Perm.swap _ _ _)
theorem ins_asc {x : Int} : ∀ {l : List Int}, l.Pairwise (· < ·) → x ∉ l → (insL x l).Pairwise (· < ·)
  | [], _, _ => List.pairwise_singleton _ _
  | a :: r, ha, hx => by
    have hlt := fun {y} (hy : y ∈ r) => List.rel_of_pairwise_cons ha hy
    show (if x < a then x :: a :: r else a :: insL x r).Pairwise _
    split
    · rename_i h
      rw [List.pairwise_cons]
      refine ⟨fun y hy => ?_, ha⟩
      rcases List.mem_cons.1 hy with rfl | hy
      · exact h
      · have := hlt hy; omega
    · rename_i h
      rw [List.pairwise_cons]
      refine ⟨fun y hy => ?_, ins_asc ha.of_cons (fun h => hx (List.mem_cons_of_mem _ h))⟩
      have hne : a ≠ x := fun e => hx (e ▸ List.mem_cons_self ..)
      rcases List.mem_cons.1 ((ins_perm x r).mem_iff.1 hy) with rfl | hy
      · omega
      · exact hlt hy
theorem pair_ins (d : Dl) (x : Int) : ∀ l : List Int, pairP d (insL x l) = (l.all (fun y => !clshD d x y) && pairP d l)
  | [] => rfl
  | a :: r => by
    show pairP d (if x < a then x :: a :: r else a :: insL x r) = _
    split
    · show (!((a :: r).any (clshD d x)) && pairP d (a :: r)) = _
      rw [List.not_any_eq_all_not]
    · show (!((insL x r).any (clshD d a)) && pairP d (insL x r)) = _
      rw [pair_ins d x r, (ins_perm x r).any_eq, List.any_cons, clash_symm d a x, List.all_cons]
      show _ = (_ && (!(r.any (clshD d a)) && pairP d r))
      cases clshD d x a <;> cases r.any (clshD d a) <;> cases (r.all fun y => !clshD d x y) <;> simp
theorem hidden_perm {l l' : List Int} (h : l.Perm l') (all : Nat) (third : Int) : hiddenR l all third = hiddenR l' all third := by
  have hf : (fitL third l).Perm (fitL third l') := h.filter _
  have e1 : commonL third l all = commonL third l' all := hf.foldl_eq' (fun x _ y _ z => by rw [Nat.and_assoc, Nat.and_assoc, Nat.and_comm x.toNat]) _
  have e2 : someL third l = someL third l' := hf.foldl_eq' (fun x _ y _ z => by rw [Nat.or_assoc, Nat.or_assoc, Nat.or_comm x.toNat]) _
  unfold hiddenR
  rw [e1, e2]
  have : (fitL third l).isEmpty = (fitL third l').isEmpty := by
    rw [Bool.eq_iff_iff, List.isEmpty_iff, List.isEmpty_iff]
    exact ⟨fun e => by rw [e] at hf; exact hf.nil_eq.symm, fun e => by rw [e] at hf; exact hf.eq_nil⟩
  rw [this]
theorem hides_perm (d : Dl) {l l' : List Int} (h : l.Perm l') : hidesP d l = hidesP d l' := by
  unfold hidesP; congr 1; funext t; exact hidden_perm h _ _
theorem and_self_pop (x : Int) : andI x x = x.toNat := Nat.and_self _
/-- the program's way to the first safe list -/
theorem first_prog {d : Dl} {hand size : Int} (hd : dealR d = true) (hh : hand ∈ handsR d) (hs : 1 ≤ size ∧ size ≤ 7) (hc : 0 ≤ d.c) (ha0 : 0 ≤ d.a) :
    firstR d hand size = (((combsL (size.toNat - 1) (fitP d hand (handsR d))).find? (fun M => pairP d M && hidesP d ([hand] ++ M))).map (insL hand)) := by
  unfold firstR
  rw [hd, hasI_mem.2 hh, decide_eq_true hs]
  simp only [Bool.and_true, if_true]
  obtain ⟨k, hk⟩ : ∃ k, size.toNat = k + 1 := ⟨size.toNat - 1, by omega⟩
  rw [hk, srch_find hd (k + 1) (handsR d) [] (by simpa using hands_asc d) (fun x hx => by simpa using hx) rfl (Or.inl (by omega))]
  simp only [List.nil_append, Nat.add_sub_cancel]
  rw [show (fun M => hasI M hand && (pairP d M && hidesP d M)) = (fun M => hasI M hand && (fun M => pairP d M && hidesP d M) M) from rfl, ← find_filter, combs_ins (hands_asc d) hh k, find_map]
  have e0 : fitP d hand (handsR d) = ((handsR d).filter (fun y => !(y == hand))).filter (fun y => !clshD d hand y) := by
    unfold fitP
    rw [List.filter_filter]
    apply List.filter_congr
    intro y _
    by_cases e : y = hand
    · subst e
      have hp : pop y.toNat = d.a.toNat := by
        have h := hh
        unfold handsR at h
        rw [if_pos hd] at h
        exact (handsTo_mem h).2.2
      have : clshD d y y = true := by
        unfold clshD; rw [and_self_pop, hp, decide_eq_true_eq]; omega
      rw [this]; rfl
    · have : (y == hand) = false := beq_eq_false_iff_ne.2 e
      rw [this]; simp
  rw [e0]
  generalize (handsR d).filter (fun y => !(y == hand)) = H
  rw [combs_filter, find_filter, Option.map_map]
  have e1 : (combsL k H).find? (fun x => (x.all fun y => !clshD d hand y) && (pairP d x && hidesP d ([hand] ++ x))) = (combsL k H).find? (fun x => pairP d (insL hand x) && hidesP d (insL hand x)) := by
    apply find_congr
    intro M _
    rw [pair_ins, hides_perm d (ins_perm hand M), Bool.and_assoc]; rfl
  rw [e1]
  cases (combsL k H).find? (fun x => pairP d (insL hand x) && hidesP d (insL hand x)) <;> rfl
end Go.Proofs.YteahjnobnbafiaaDoor
